/-
  What functions do, told by pure functions. No condition.
-/
import Derived.Test.YtbligeacgkhljaaRcaCTold
set_option linter.unusedSimpArgs false
set_option linter.unusedVariables false
set_option linter.unusedSectionVars false
set_option linter.unnecessarySimpa false
set_option maxRecDepth 100000
noncomputable section
namespace Go.Proofs.Ytbligeacgkhljaa.rca21
open Go Go.Proofs.Ytbligeacgkhljaa Ax
variable [Args]
def qrc_ (a0 : W8) (r : Unit) : Value := match r with
 | _ => (Value.func (.func 50) #[] #[(pN 0 0)])
def qrd_ (a0 : W8) (r : Unit) : AH := match r with
 | _ => ⟨sB [(0, (cB [(wlV a0)] 22))], 1, 0⟩
abbrev qyf_ (a0 : W8) (r : Unit) : Prop := Gv P (.func 28) [(wlV a0)] ⟨sB [], 0, 0⟩ (qrc_ a0 r) (qrd_ a0 r)
abbrev qre_ (a0 : W8) (r : Unit) (ins outs : BL) : CallA := ⟨0, ins, qrc_ a0 r, qrd_ a0 r, outs⟩
def qdf_ (n : Nat) (a0 : W8) : Option (Unit) :=
 some ()
theorem qnq_ (n : Nat) (a0 : W8) (r : Unit) (h : qdf_ n a0 = some r) : qyf_ a0 r := by
 unfold qdf_ at h
 obtain rfl := oI h
 exact runF2 hm (kW [2] [(0, 0, false)] 1 0) (ee) (by kernel_rfl)

def qf9_ (a0 : W8) (a1 : Int) (r : Unit) : Value := match r with
 | _ => (bO true)
def qga_ (a0 : W8) (a1 : Int) (r : Unit) : AH := match r with
 | _ => ⟨sB [(0, (cB [(wlV a0)] 22)), (1, (cB [(sN 4 0 1 (Nat.add big 1))] 30)), (2, (some (.marks true))), (3, (some (rblk P 49 [false, true, false, true] .ready none [(2, (pN 1 0)), (6, (Value.func (.func 50) #[] #[(pN 0 0)]))] 2))), (4, (cB [(i6 a1)] 3))], 5, 1⟩
abbrev qk0_ (a0 : W8) (a1 : Int) (r : Unit) : Prop := Gv P (.yield 3) [(i6 a1)] ⟨sB [(0, (cB [(wlV a0)] 22)), (1, (cB [(Value.slice none 0 0)] 30)), (2, (some (.marks true))), (3, (some (rblk P 49 [false, true, false, true] .ready none [(2, (pN 1 0)), (6, (Value.func (.func 50) #[] #[(pN 0 0)]))] 2)))], 4, 4⟩ (qf9_ a0 a1 r) (qga_ a0 a1 r)
abbrev qk1_ (a0 : W8) (a1 : Int) (r : Unit) (ins outs : BL) : CallA := ⟨4, ins, qf9_ a0 a1 r, qga_ a0 a1 r, outs⟩
def qcc_ (n : Nat) (a0 : W8) (a1 : Int) : Option (Unit) :=
 some ()
theorem qjc_ (n : Nat) (a0 : W8) (a1 : Int) (r : Unit) (h : qcc_ n a0 a1 = some r) : qk0_ a0 a1 r := by
 unfold qcc_ at h
 obtain rfl := oI h
 exact runY2 hm (kW [] [(0, 0, false), (1, 1, false), (2, 2, false), (3, 3, false), (4, 5, false)] 5 1) (ee) (ee) (by kernel_rfl)

def qyg_ (a0 : W8) (a1 : Int) (r : Int) : Value := match r with
 | o0 => (i6 o0)
def qyh_ (a0 : W8) (a1 : Int) (r : Int) : AH := match r with
 | o0 => ⟨sB [], 0, 0⟩
abbrev G_partsEndq1 (a0 : W8) (a1 : Int) (r : Int) : Prop := Gv P (.func 51) [(wlV a0), (i6 a1)] ⟨sB [], 0, 0⟩ (qyg_ a0 a1 r) (qyh_ a0 a1 r)
abbrev qs9_ (a0 : W8) (a1 : Int) (r : Int) (ins outs : BL) : CallA := ⟨0, ins, qyg_ a0 a1 r, qyh_ a0 a1 r, outs⟩
def qlr_ (x1_0 : W8) (st : Int) : XSt := match st with
 | x1_1 => (sT 28 [(0, (wlV x1_0)), (1, (i6 x1_1))], [], ⟨sB [], 0, 0⟩)
def qi4_ (x1_0 : W8) (r : Int) : Ex × XSt := match r with
 | z1_0 => (.exit 0, (sT 28 [(1, (i6 z1_0))], [], ⟨sB [], 0, 0⟩))
abbrev qt9_ (rd : Option Nat) (x1_0 : W8) (st : Int) (r : Int) : Prop := CG P rd (fnN P 51) 0 (qw_ P 51 [false, false, true]) (qlr_ x1_0 st) (qi4_ x1_0 r)
def qg1_ (n : Nat) (x1_0 : W8) (st : Int) : Option ((Int) ⊕ (Int)) := match st with
 | x1_1 =>
  if 0 ≤ x1_1 ∧ x1_1 < (((x1_0).l.length : Nat) : Int) then
   ((some (((x1_0).l).getD (x1_1).toNat (0, 0, 0, 0, 0, 0, nl0, 0)))).bind fun y1_2_ =>
   if ((((y1_2_.2.2.2.2.2.2.1)).l.length : Nat) : Int) > (0 : Int) then
    ((some (w64 (((((y1_2_.2.2.2.2.2.2.1)).l.length : Nat) : Int) - (1 : Int))))).bind fun y1_4_ =>
    if 0 ≤ y1_4_ ∧ y1_4_ < ((((y1_2_.2.2.2.2.2.2.1)).l.length : Nat) : Int) then
     if (y1_4_).toNat < (((y1_2_.2.2.2.2.2.2.1)).l).length then
      ((some ((((y1_2_.2.2.2.2.2.2.1)).l).getD (y1_4_).toNat 0))).bind fun y1_7_ =>
      some (.inl y1_7_)
     else none
    else none
   else
    some (.inr x1_1)
  else none
def qpm_ (n : Nat) (x1_0 : W8) (st : Int) : Option (Int) := iterM (qg1_ n x1_0) n st
theorem qua_ (n : Nat) {rnd : Option Nat} (x1_0 : W8) (x1_1 : Int) (o : (Int) ⊕ (Int)) (h : qg1_ n x1_0 x1_1 = some o) : CG P rnd (fnN P 51) 0 (qw_ P 51 [false, false, false, true]) (qlr_ x1_0 x1_1) (Sum.elim (fun s => (.normal, qlr_ x1_0 s)) (fun r => qi4_ x1_0 r) o) := by
 unfold qg1_ at h
 dsimp only at h
 obtain ⟨hy1_1, h⟩ := gd h
 obtain ⟨y1_2_, hy1_2, h⟩ := oB h
 have k0 := fun {A L l} (k : PL A L l) => zz 4 (xk1 (x1_0).num (x1_0).off (x1_0).cap hy1_1) <|
  zz 5 (fk11 (x1_0).num (Nat.add (x1_0).off ((x1_1).toNat * 8))) <|
  zz 6 (lk12 hy1_2 (qba_ hy1_1)) <|
  k
 by_cases hy1_3 : ((((y1_2_.2.2.2.2.2.2.1)).l.length : Nat) : Int) > (0 : Int)
 ·rw [if_pos hy1_3] at h
  obtain ⟨y1_4_, hy1_4, h⟩ := oB h
  obtain ⟨hy1_5, h⟩ := gd h
  obtain ⟨hy1_6, h⟩ := gd h
  obtain ⟨y1_7_, hy1_7, h⟩ := oB h
  obtain rfl := oI h
  exact runC2 hm (kW [0, 1] [] 0 0) (k0 <|
   zz 8 (xdT hy1_3) <|
   zz 13 (xk1 (x1_0).num (x1_0).off (x1_0).cap hy1_1) <|
   zz 14 (fk11 (x1_0).num (Nat.add (x1_0).off ((x1_1).toNat * 8))) <|
   zz 15 (lk12 hy1_2 (qba_ hy1_1)) <|
   zz 18 (xk1 (x1_0).num (x1_0).off (x1_0).cap hy1_1) <|
   zz 19 (fk11 (x1_0).num (Nat.add (x1_0).off ((x1_1).toNat * 8))) <|
   zz 20 (lk12 hy1_2 (qba_ hy1_1)) <|
   zz 22 (xnm hy1_4) <|
   zz 23 (xk8 (Nat.add ((y1_2_.2.2.2.2.2.2.1)).num 64) ((y1_2_.2.2.2.2.2.2.1)).off ((y1_2_.2.2.2.2.2.2.1)).cap hy1_5) <|
   zz 24 (nk9 hy1_7 hy1_6) <|
   ee) (by kernel_rfl)
 ·rw [if_neg hy1_3] at h
  obtain rfl := oI h
  exact runC2 hm (kW [1] [] 0 0) (k0 <|
   zz 8 (xdF hy1_3) <|
   ee) (by kernel_rfl)
theorem qwa_ (n : Nat) {rnd : Option Nat} (x1_0 : W8) (st : Int) (r : Int) (h : qpm_ n x1_0 st = some r) : qt9_ rnd x1_0 st r :=
 CG.iter (b := qw_ P 51 [false, false, false, true]) (by kernel_rfl) (body := qg1_ n x1_0) (S := qlr_ x1_0) (X := qi4_ x1_0)
  (fun s s' h => qua_ n x1_0 s (.inl s') h)
  (fun s r h => qua_ n x1_0 s (.inr r) h)
  (fun r => by intro hx; cases hx) h
def qgw_ (n : Nat) (a0 : W8) (a1 : Int) : Option (Int) :=
 (qpm_ n a0 a1).bind fun c1_ =>
 some (w64 (c1_ + (1 : Int)))
theorem qn3_ (n : Nat) (a0 : W8) (a1 : Int) (r : Int) (h : qgw_ n a0 a1 = some r) : G_partsEndq1 a0 a1 r := by
 unfold qgw_ at h
 obtain ⟨c1_, hc1, h⟩ := oB h
 obtain rfl := oI h
 exact runF2 hm (kW [4] [] 0 0) (ww (p := qt9_ none a0 a1 c1_) (qwa_ n a0 a1 c1_ hc1) <|
  ll 4 ⟨(kW [0, 1] [] 0 0), (qi4_ a0 c1_).1, (qi4_ a0 c1_).2⟩ <|
  ee) (by kernel_rfl)

def qgb_ (a0 : List Int) (a1 : W8) (a2 : Int) (r : Unit) : Value := match r with
 | _ => (bO true)
def qgc_ (a0 : List Int) (a1 : W8) (a2 : Int) (r : Unit) : AH := match r with
 | _ => ⟨sB [(0, (cB [(wlV a1)] 22)), (1, (cB [(sN 5 0 ((a0 ++ [a2])).length (Nat.add big 1))] 30)), (2, (some (.marks true))), (3, (some (rblk P 49 [false, true, false, true] .ready none [(2, (pN 1 0)), (6, (Value.func (.func 50) #[] #[(pN 0 0)]))] 2))), (5, (cB (iv (a0 ++ [a2])) 3))], 6, 1⟩
abbrev qk2_ (a0 : List Int) (a1 : W8) (a2 : Int) (r : Unit) : Prop := Gv P (.yield 3) [(i6 a2)] ⟨sB [(0, (cB [(wlV a1)] 22)), (1, (cB [(sN 4 0 (a0).length (Nat.add big 1))] 30)), (2, (some (.marks true))), (3, (some (rblk P 49 [false, true, false, true] .ready none [(2, (pN 1 0)), (6, (Value.func (.func 50) #[] #[(pN 0 0)]))] 2))), (4, (cB (iv a0) 3))], 5, 5⟩ (qgb_ a0 a1 a2 r) (qgc_ a0 a1 a2 r)
abbrev qk3_ (a0 : List Int) (a1 : W8) (a2 : Int) (r : Unit) (ins outs : BL) : CallA := ⟨5, ins, qgb_ a0 a1 a2 r, qgc_ a0 a1 a2 r, outs⟩
def qcd_ (n : Nat) (a0 : List Int) (a1 : W8) (a2 : Int) : Option (Unit) :=
 if ((a0).length + 1) * 8 ≤ 140737488355328 then
  some ()
 else none
theorem qjd_ (n : Nat) (a0 : List Int) (a1 : W8) (a2 : Int) (r : Unit) (h : qcd_ n a0 a1 a2 = some r) : qk2_ a0 a1 a2 r := by
 unfold qcd_ at h
 obtain ⟨hc1, h⟩ := gd h
 obtain rfl := oI h
 exact runY2 hm (kW [] [(0, 0, false), (1, 1, false), (2, 2, false), (3, 3, false), (5, 6, true)] 6 1) (ee) (yy 4 (.app ⟨none, iv a0, (iv (a0 ++ [a2])), ((a0 ++ [a2])).length, false⟩) <|
  ww (p := 0 < 1) ((by decide)) <|
  ww (p := rdT (layT (iv a0)) (Nat.mul (a0).length 1) 0 = some (iv a0)) (iv_rd _) <|
  ww (p := fits (Nat.add (a0).length 1) 8 = true) (qmb_ hc1 (by have := hc1; show (_ : Nat) + _ ≤ _; omega)) <|
  ww (p := qbc_ [(i6 a2)] = true) (rfl) <|
  ww (p := qbc_ (iv a0) = true) (q0s_ _) <|
  ww (p := iv a0 ++ [(i6 a2)] = (iv (a0 ++ [a2]))) (by simp [iv]) <|
  ww (p := Nat.add (a0).length 1 = ((a0 ++ [a2])).length) (by simp) <|
  ww (qdb_ (a0 ++ [a2]) 3) <|
  ee) (by kernel_rfl)

def qp0_ (a0 : W8) (r : List Int) : Value := match r with
 | o0 => (Value.tuple #[])
def qp1_ (a0 : W8) (r : List Int) : AH := match r with
 | o0 => ⟨sB [(0, (cB [(wlV a0)] 22)), (1, (cB [(slN o0 4)] 30)), (2, (some (.marks true))), (3, (some (rblk P 49 [false, true, false, true] .ready none [(2, (pN 1 0)), (6, (Value.func (.func 50) #[] #[(pN 0 0)]))] 2))), (4, (nblk o0 3))], 5, 1⟩
abbrev qwb_ (a0 : W8) (r : List Int) : Prop := Gv P (.func 50) [(Value.func (.yield 3) #[] #[]), (pN 0 0)] ⟨sB [(0, (cB [(wlV a0)] 22)), (1, (cB [(Value.slice none 0 0)] 30)), (2, (some (.marks true))), (3, (some (rblk P 49 [false, true, false, true] .ready none [(2, (pN 1 0)), (6, (Value.func (.func 50) #[] #[(pN 0 0)]))] 2)))], 4, 4⟩ (qp0_ a0 r) (qp1_ a0 r)
abbrev qp2_ (a0 : W8) (r : List Int) (ins outs : BL) : CallA := ⟨4, ins, qp0_ a0 r, qp1_ a0 r, outs⟩
def qgk_ (x1_0 : W8) (st : List Int × List (Bool) × Nat × Int) : XSt := match st with
 | (x1_1, x1_2, x1_3, x1_4) => (sT 26 [(0, (Value.func (.yield 3) #[] #[])), (1, (pN 0 0)), (3, (slKQ x1_2 5 x1_3 0 x1_3)), (4, (i6 x1_4))], [], ⟨sB [(0, (cB [(wlV x1_0)] 22)), (1, (cB [(slN x1_1 4)] 30)), (2, (some (.marks true))), (3, (some (rblk P 49 [false, true, false, true] .ready none [(2, (pN 1 0)), (6, (Value.func (.func 50) #[] #[(pN 0 0)]))] 2))), (4, (nblk x1_1 3)), (5, (nblkR rw_b x1_2 4))], 6, 1⟩)
def q1_ (x1_0 : W8) (r : List Int) : Ex × XSt := match r with
 | z1_0 => (.exit 0, (sT 26 [], [], ⟨sB [(0, (cB [(wlV x1_0)] 22)), (1, (cB [(slN z1_0 4)] 30)), (2, (some (.marks true))), (3, (some (rblk P 49 [false, true, false, true] .ready none [(2, (pN 1 0)), (6, (Value.func (.func 50) #[] #[(pN 0 0)]))] 2))), (4, (nblk z1_0 3))], 5, 1⟩))
abbrev qub_ (rnd : Option Nat) (x1_0 : W8) (st : List Int × List (Bool) × Nat × Int) (c : Ex × XSt) : Prop := CG P rnd (fnN P 50) 4 (qw_ P 50 [false, false, true, true]) (qgk_ x1_0 st) c
abbrev qe6_ (rd : Option Nat) (x1_0 : W8) (st : List Int × List (Bool) × Nat × Int) (r : List Int) : Prop := CG P rd (fnN P 50) 4 (qw_ P 50 [false, true, true]) (qgk_ x1_0 st) (q1_ x1_0 r)
def qs_ (n : Nat) (x1_0 : W8) (st : List Int × List (Bool) × Nat × Int) : Option ((List Int × List (Bool) × Nat × Int) ⊕ (List Int)) := match st with
 | (x1_1, x1_2, x1_3, x1_4) =>
  match x1_1 with
  | [] =>
   match x1_2 with
   | [] =>
    if x1_4 < (0 : Int) then
     (qe1_ n x1_0 x1_4).bind fun _ =>
     some (.inl (([] : List Int), ([] : List (Bool)), 0, (w64 (x1_4 + (1 : Int)))))
    else
     some (.inr ([] : List Int))
   | x1_2a :: x1_2t =>
    if x1_4 < ((x1_3 : Nat) : Int) then
     (qcw_ n x1_0 (x1_2a :: x1_2t) x1_3 x1_3 x1_4).bind fun y1_2_ =>
     if y1_2_ = true then
      (qcc_ n x1_0 x1_4).bind fun _ =>
      (qgw_ n x1_0 x1_4).bind fun y1_5_ =>
      some (.inl ([x1_4], (x1_2a :: x1_2t), x1_3, y1_5_))
     else
      some (.inl (([] : List Int), (x1_2a :: x1_2t), x1_3, (w64 (x1_4 + (1 : Int)))))
    else
     some (.inr ([] : List Int))
  | x1_1a :: x1_1t =>
   match x1_2 with
   | [] =>
    if x1_4 < (0 : Int) then
     (qe1_ n x1_0 x1_4).bind fun _ =>
     some (.inl ((x1_1a :: x1_1t), ([] : List (Bool)), 0, (w64 (x1_4 + (1 : Int)))))
    else
     some (.inr (x1_1a :: x1_1t))
   | x1_2a :: x1_2t =>
    if x1_4 < ((x1_3 : Nat) : Int) then
     (qcw_ n x1_0 (x1_2a :: x1_2t) x1_3 x1_3 x1_4).bind fun y1_2_ =>
     if y1_2_ = true then
      (qcd_ n (x1_1a :: x1_1t) x1_0 x1_4).bind fun _ =>
      (qgw_ n x1_0 x1_4).bind fun y1_5_ =>
      some (.inl (((x1_1a :: x1_1t) ++ [x1_4]), (x1_2a :: x1_2t), x1_3, y1_5_))
     else
      some (.inl ((x1_1a :: x1_1t), (x1_2a :: x1_2t), x1_3, (w64 (x1_4 + (1 : Int)))))
    else
     some (.inr (x1_1a :: x1_1t))
def qe7_ (n : Nat) (x1_0 : W8) (st : List Int × List (Bool) × Nat × Int) : Option (List Int) := iterM (qs_ n x1_0) n st
theorem qnr_ (n : Nat) {rnd : Option Nat} (x1_0 : W8) (st : List Int × List (Bool) × Nat × Int) (o : (List Int × List (Bool) × Nat × Int) ⊕ (List Int)) (h : qs_ n x1_0 st = some o) : qub_ rnd x1_0 st (Sum.elim (fun s => (.normal, qgk_ x1_0 s)) (fun r => q1_ x1_0 r) o) := by
 obtain ⟨x1_1, x1_2, x1_3, x1_4⟩ := st
 unfold qs_ at h
 dsimp only at h
 cases x1_1 with
 | nil =>
  dsimp only at h
  cases x1_2 with
  | nil =>
   dsimp only at h
   by_cases hy1_1 : x1_4 < (0 : Int)
   ·rw [if_pos hy1_1] at h
    obtain ⟨_, hy1_2, h⟩ := oB h
    obtain rfl := oI h
    exact runC2 hm (kW [0, 1, 3, 4] (iD 4) 6 1) (zz 5 (xdT hy1_1) <|
     yy 17 (.call (qhx_ x1_0 x1_4 () [] [])) <|
     ww (qfx_ n x1_0 x1_4 () hy1_2) <|
     ee) (by kernel_rfl)
   ·rw [if_neg hy1_1] at h
    obtain rfl := oI h
    exact runC2 hm (kW [] (iD 4) 5 1) (zz 5 (xdF hy1_1) <|
     ee) (by kernel_rfl)
  | cons x1_2a x1_2t =>
   dsimp only at h
   by_cases hy1_1 : x1_4 < ((x1_3 : Nat) : Int)
   ·rw [if_pos hy1_1] at h
    obtain ⟨y1_2_, hy1_2, h⟩ := oB h
    have k0 := fun {A L l} (k : PL A L l) => zz 5 (xdT hy1_1) <|
     yy 17 (.call (qhw_ x1_0 (x1_2a :: x1_2t) x1_3 x1_3 x1_4 y1_2_ [(0, 5, true)] [])) <|
     ww (qfv_ n x1_0 (x1_2a :: x1_2t) x1_3 x1_3 x1_4 y1_2_ hy1_2) <|
     ww (qb_ rwf_b (x1_2a :: x1_2t) 4) <|
     k
    by_cases hy1_3 : y1_2_ = true
    ·rw [if_pos hy1_3] at h
     obtain ⟨_, hy1_4, h⟩ := oB h
     obtain ⟨y1_5_, hy1_5, h⟩ := oB h
     obtain rfl := oI h
     exact runC2 hm (kW [0, 1, 3, 4] [(0, 0, false), (1, 1, false), (2, 2, false), (3, 3, false), (4, 6, false), (5, 5, true)] 6 1) (k0 <|
      zz 18 (xbT hy1_3) <|
      yy 23 (.call (qk1_ x1_0 x1_4 () (iD 4) [(0, 0, false), (1, 1, false), (2, 2, false), (3, 3, false), (6, 4, false)])) <|
      ww (qjc_ n x1_0 x1_4 () hy1_4) <|
      yy 28 (.call (qs9_ x1_0 x1_4 y1_5_ [] [])) <|
      ww (qn3_ n x1_0 x1_4 y1_5_ hy1_5) <|
      ww (qb_ rwf_b (x1_2a :: x1_2t) 4) <|
      ee) (by kernel_rfl)
    ·rw [if_neg hy1_3] at h
     obtain rfl := oI h
     exact runC2 hm (kW [0, 1, 3, 4] [(0, 0, false), (1, 1, false), (2, 2, false), (3, 3, false), (5, 5, true)] 6 1) (k0 <|
      zz 18 (xbF hy1_3) <|
      ww (qb_ rwf_b (x1_2a :: x1_2t) 4) <|
      ee) (by kernel_rfl)
   ·rw [if_neg hy1_1] at h
    obtain rfl := oI h
    exact runC2 hm (kW [] (iD 4) 5 1) (zz 5 (xdF hy1_1) <|
     ee) (by kernel_rfl)
 | cons x1_1a x1_1t =>
  dsimp only at h
  cases x1_2 with
  | nil =>
   dsimp only at h
   by_cases hy1_1 : x1_4 < (0 : Int)
   ·rw [if_pos hy1_1] at h
    obtain ⟨_, hy1_2, h⟩ := oB h
    obtain rfl := oI h
    exact runC2 hm (kW [0, 1, 3, 4] [(0, 0, false), (1, 1, false), (2, 2, false), (3, 3, false), (4, 4, true)] 6 1) (zz 5 (xdT hy1_1) <|
     yy 17 (.call (qhx_ x1_0 x1_4 () [] [])) <|
     ww (qfx_ n x1_0 x1_4 () hy1_2) <|
     ww (qdb_ (x1_1a :: x1_1t) 3) <|
     ee) (by kernel_rfl)
   ·rw [if_neg hy1_1] at h
    obtain rfl := oI h
    exact runC2 hm (kW [] [(0, 0, false), (1, 1, false), (2, 2, false), (3, 3, false), (4, 4, true)] 5 1) (zz 5 (xdF hy1_1) <|
     ww (qdb_ (x1_1a :: x1_1t) 3) <|
     ee) (by kernel_rfl)
  | cons x1_2a x1_2t =>
   dsimp only at h
   by_cases hy1_1 : x1_4 < ((x1_3 : Nat) : Int)
   ·rw [if_pos hy1_1] at h
    obtain ⟨y1_2_, hy1_2, h⟩ := oB h
    have k0 := fun {A L l} (k : PL A L l) => zz 5 (xdT hy1_1) <|
     yy 17 (.call (qhw_ x1_0 (x1_2a :: x1_2t) x1_3 x1_3 x1_4 y1_2_ [(0, 5, true)] [])) <|
     ww (qfv_ n x1_0 (x1_2a :: x1_2t) x1_3 x1_3 x1_4 y1_2_ hy1_2) <|
     ww (qb_ rwf_b (x1_2a :: x1_2t) 4) <|
     k
    by_cases hy1_3 : y1_2_ = true
    ·rw [if_pos hy1_3] at h
     obtain ⟨_, hy1_4, h⟩ := oB h
     obtain ⟨y1_5_, hy1_5, h⟩ := oB h
     obtain rfl := oI h
     exact runC2 hm (kW [0, 1, 3, 4] [(0, 0, false), (1, 1, false), (2, 2, false), (3, 3, false), (4, 6, true), (5, 5, true)] 6 1) (k0 <|
      zz 18 (xbT hy1_3) <|
      yy 23 (.call (qk3_ (x1_1a :: x1_1t) x1_0 x1_4 () [(0, 0, false), (1, 1, false), (2, 2, false), (3, 3, false), (4, 4, true)] [(0, 0, false), (1, 1, false), (2, 2, false), (3, 3, false), (6, 5, true)])) <|
      ww (qjd_ n (x1_1a :: x1_1t) x1_0 x1_4 () hy1_4) <|
      ww (qdb_ (x1_1a :: x1_1t) 3) <|
      ww (qdb_ ((x1_1a :: x1_1t) ++ [x1_4]) 3) <|
      yy 28 (.call (qs9_ x1_0 x1_4 y1_5_ [] [])) <|
      ww (qn3_ n x1_0 x1_4 y1_5_ hy1_5) <|
      ww (qdb_ ((x1_1a :: x1_1t) ++ [x1_4]) 3) <|
      ww (qb_ rwf_b (x1_2a :: x1_2t) 4) <|
      ee) (by kernel_rfl)
    ·rw [if_neg hy1_3] at h
     obtain rfl := oI h
     exact runC2 hm (kW [0, 1, 3, 4] [(0, 0, false), (1, 1, false), (2, 2, false), (3, 3, false), (4, 4, true), (5, 5, true)] 6 1) (k0 <|
      zz 18 (xbF hy1_3) <|
      ww (qdb_ (x1_1a :: x1_1t) 3) <|
      ww (qb_ rwf_b (x1_2a :: x1_2t) 4) <|
      ee) (by kernel_rfl)
   ·rw [if_neg hy1_1] at h
    obtain rfl := oI h
    exact runC2 hm (kW [] [(0, 0, false), (1, 1, false), (2, 2, false), (3, 3, false), (4, 4, true)] 5 1) (zz 5 (xdF hy1_1) <|
     ww (qdb_ (x1_1a :: x1_1t) 3) <|
     ee) (by kernel_rfl)
theorem qe8_ (n : Nat) {rnd : Option Nat} (x1_0 : W8) (st : List Int × List (Bool) × Nat × Int) (r : List Int) (h : qe7_ n x1_0 st = some r) : qe6_ rnd x1_0 st r :=
 CG.iter (b := qw_ P 50 [false, false, true, true]) (by kernel_rfl) (body := qs_ n x1_0) (S := qgk_ x1_0) (X := q1_ x1_0)
  (fun s s' h => qnr_ n x1_0 s (.inl s') h)
  (fun s r h => qnr_ n x1_0 s (.inr r) h)
  (fun r => by intro hx; cases hx) h
def qdo_ (n : Nat) (a0 : W8) : Option (List Int) :=
 match qch_ n a0 with
 | none => none
 | some (.inl c1_) =>
  match c1_ with
  | [] =>
   none
  | c1_a :: c1_t =>
   (qe7_ n a0 (([] : List Int), (c1_a :: c1_t), (((((a0).l.length : Nat) : Int)).toNat), 0)).bind fun c2_ =>
   match c2_ with
   | [] =>
    some ([] : List Int)
   | c2_a :: c2_t =>
    some (c2_a :: c2_t)
 | some (.inr _) =>
  (qe7_ n a0 (([] : List Int), ([] : List (Bool)), 0, 0)).bind fun c2_ =>
  match c2_ with
  | [] =>
   some ([] : List Int)
  | c2_a :: c2_t =>
   some (c2_a :: c2_t)
theorem qms_ (n : Nat) (a0 : W8) (r : List Int) (h : qdo_ n a0 = some r) : qwb_ a0 r := by
 unfold qdo_ at h
 rcases hc1 : qch_ n a0 with _ | (c1_ | ⟨⟩)
 ·rw [hc1] at h; cases h
 ·rw [hc1] at h
  dsimp only at h
  cases c1_ with
  | nil =>
   dsimp only at h
   cases h
  | cons c1_a c1_t =>
   dsimp only at h
   obtain ⟨c2_, hc2, h⟩ := oB h
   have k0 := fun {A L l} (k : PL A L l) => yy 2 (.call (qif_ a0 (.inl (c1_a :: c1_t)) [] [(5, 1, true)])) <|
    ww (qfk_ n a0 (.inl (c1_a :: c1_t)) hc1) <|
    ww (qb_ rwf_b (c1_a :: c1_t) 4) <|
    k
   cases c2_ with
   | nil =>
    dsimp only at h
    obtain rfl := oI h
    exact runF2 hm (kW [] (iD 4) 5 1) (k0 <|
     ww (p := qe6_ none a0 (([] : List Int), (c1_a :: c1_t), (((((a0).l.length : Nat) : Int)).toNat), 0) ([] : List Int)) (qe8_ n a0 (([] : List Int), (c1_a :: c1_t), (((((a0).l.length : Nat) : Int)).toNat), 0) ([] : List Int) hc2) <|
     ww (qb_ rwf_b (c1_a :: c1_t) 4) <|
     ll 7 ⟨(kW [0, 1, 3, 4] [(0, 0, false), (1, 1, false), (2, 2, false), (3, 3, false), (5, 5, true)] 6 1), (q1_ a0 ([] : List Int)).1, (q1_ a0 ([] : List Int)).2⟩ <|
     ee) (by kernel_rfl)
   | cons c2_a c2_t =>
    dsimp only at h
    obtain rfl := oI h
    exact runF2 hm (kW [] [(0, 0, false), (1, 1, false), (2, 2, false), (3, 3, false), (4, 4, true)] 5 1) (k0 <|
     ww (p := qe6_ none a0 (([] : List Int), (c1_a :: c1_t), (((((a0).l.length : Nat) : Int)).toNat), 0) (c2_a :: c2_t)) (qe8_ n a0 (([] : List Int), (c1_a :: c1_t), (((((a0).l.length : Nat) : Int)).toNat), 0) (c2_a :: c2_t) hc2) <|
     ww (qb_ rwf_b (c1_a :: c1_t) 4) <|
     ll 7 ⟨(kW [0, 1, 3, 4] [(0, 0, false), (1, 1, false), (2, 2, false), (3, 3, false), (5, 5, true)] 6 1), (q1_ a0 (c2_a :: c2_t)).1, (q1_ a0 (c2_a :: c2_t)).2⟩ <|
     ww (qdb_ (c2_a :: c2_t) 3) <|
     ee) (by kernel_rfl)
 ·rw [hc1] at h
  dsimp only at h
  obtain ⟨c2_, hc2, h⟩ := oB h
  have k0 := fun {A L l} (k : PL A L l) => yy 2 (.call (qif_ a0 (.inr ()) [] [])) <|
   ww (qfk_ n a0 (.inr ()) hc1) <|
   k
  cases c2_ with
  | nil =>
   dsimp only at h
   obtain rfl := oI h
   exact runF2 hm (kW [] (iD 4) 5 1) (k0 <|
    ww (p := qe6_ none a0 (([] : List Int), ([] : List (Bool)), 0, 0) ([] : List Int)) (qe8_ n a0 (([] : List Int), ([] : List (Bool)), 0, 0) ([] : List Int) hc2) <|
    ll 7 ⟨(kW [0, 1, 3, 4] (iD 4) 6 1), (q1_ a0 ([] : List Int)).1, (q1_ a0 ([] : List Int)).2⟩ <|
    ee) (by kernel_rfl)
  | cons c2_a c2_t =>
   dsimp only at h
   obtain rfl := oI h
   exact runF2 hm (kW [] [(0, 0, false), (1, 1, false), (2, 2, false), (3, 3, false), (4, 4, true)] 5 1) (k0 <|
    ww (p := qe6_ none a0 (([] : List Int), ([] : List (Bool)), 0, 0) (c2_a :: c2_t)) (qe8_ n a0 (([] : List Int), ([] : List (Bool)), 0, 0) (c2_a :: c2_t) hc2) <|
    ll 7 ⟨(kW [0, 1, 3, 4] (iD 4) 6 1), (q1_ a0 (c2_a :: c2_t)).1, (q1_ a0 (c2_a :: c2_t)).2⟩ <|
    ww (qdb_ (c2_a :: c2_t) 3) <|
    ee) (by kernel_rfl)

def qim_ (a0 : W8) (r : (Unit) ⊕ (List Int)) : Value := match r with
 | .inl _ => (Value.slice none 0 0)
 | .inr o0 => (sN 2 0 (o0).length (Nat.add big 1))
def qin_ (a0 : W8) (r : (Unit) ⊕ (List Int)) : AH := match r with
 | .inl _ => ⟨sB [(1, (some (.marks false)))], 2, 1⟩
 | .inr o0 => ⟨sB [(1, (some (.marks false))), (2, (cB (iv o0) 3))], 3, 1⟩
abbrev qo1_ (a0 : W8) (r : (Unit) ⊕ (List Int)) : Prop := Gv P (.func 49) [(Value.slice none 0 0), (Value.func (.func 50) #[] #[(pN 0 0)])] ⟨sB [(0, (cB [(wlV a0)] 22))], 1, 1⟩ (qim_ a0 r) (qin_ a0 r)
abbrev qio_ (a0 : W8) (r : (Unit) ⊕ (List Int)) (ins outs : BL) : CallA := ⟨1, ins, qim_ a0 r, qin_ a0 r, outs⟩
def qbz_ (n : Nat) (a0 : W8) : Option ((Unit) ⊕ (List Int)) :=
 (qdo_ n a0).bind fun c1_ =>
 match c1_ with
 | [] =>
  some (.inl ())
 | c1_a :: c1_t =>
  some (.inr (c1_a :: c1_t))
theorem qgx_ (n : Nat) (a0 : W8) (r : (Unit) ⊕ (List Int)) (h : qbz_ n a0 = some r) : qo1_ a0 r := by
 unfold qbz_ at h
 obtain ⟨c1_, hc1, h⟩ := oB h
 cases c1_ with
 | nil =>
  dsimp only at h
  obtain rfl := oI h
  exact runF2 hm (kW [4] [(1, 2, false)] 2 1) (yy 7 (.rng (qp2_ a0 ([] : List Int) (iD 4) (iD 4)) [2, 6]) <|
   ww (qms_ n a0 ([] : List Int) hc1) <|
   ee) (by kernel_rfl)
 | cons c1_a c1_t =>
  dsimp only at h
  obtain rfl := oI h
  exact runF2 hm (kW [4] [(1, 2, false), (2, 4, true)] 3 1) (yy 7 (.rng (qp2_ a0 (c1_a :: c1_t) (iD 4) [(0, 0, false), (1, 1, false), (2, 2, false), (3, 3, false), (4, 4, true)]) [2, 6]) <|
   ww (qms_ n a0 (c1_a :: c1_t) hc1) <|
   ww (qdb_ (c1_a :: c1_t) 3) <|
   ww (qdb_ (c1_a :: c1_t) 3) <|
   ee) (by kernel_rfl)

def qmt_ (a0 : W8) (r : NL) : Value := match r with
 | o0 => (nlV o0)
def qmu_ (a0 : W8) (r : NL) : AH := match r with
 | o0 => ⟨sB [], 1, 1⟩
abbrev qta_ (a0 : W8) (r : NL) : Prop := Gv P (.func 27) [(Value.func (.func 50) #[] #[(pN 0 0)])] ⟨sB [(0, (cB [(wlV a0)] 22))], 1, 1⟩ (qmt_ a0 r) (qmu_ a0 r)
abbrev qtb_ (a0 : W8) (r : NL) (ins outs : BL) : CallA := ⟨1, ins, qmt_ a0 r, qmu_ a0 r, outs⟩
def qec_ (n : Nat) (a0 : W8) : Option (NL) :=
 match qbz_ n a0 with
 | none => none
 | some (.inl _) =>
  some nl0
 | some (.inr c1_) =>
  if hc2 : c1_.length ≤ 140737488355328 then
   some (frzL c1_ hc2)
  else none
theorem qqd_ (n : Nat) (a0 : W8) (r : NL) (h : qec_ n a0 = some r) : qta_ a0 r := by
 unfold qec_ at h
 rcases hc1 : qbz_ n a0 with _ | (⟨⟩ | c1_)
 ·rw [hc1] at h; cases h
 ·rw [hc1] at h
  dsimp only at h
  obtain rfl := oI h
  exact runF2 hm ⟨[2], [], 1, 1, [], true, [], [], [2]⟩ (yy 4 (.call (qio_ a0 (.inl ()) [(0, 0, false)] [])) <|
   ww (qgx_ n a0 (.inl ()) hc1) <|
   ee) (by kernel_rfl)
 ·rw [hc1] at h
  dsimp only at h
  obtain ⟨hc2, h⟩ := gdD h
  obtain rfl := oI h
  exact runF2 hm ⟨[2], [], 1, 1, [(2, Nat.add (2 * cod c1_ + 1) 64)], true, [], [], []⟩ (yy 4 (.call (qio_ a0 (.inr c1_) [(0, 0, false)] [(2, 2, true)])) <|
   ww (qgx_ n a0 (.inr c1_) hc1) <|
   ww (qdb_ c1_ 3) <|
   ww (frz_ok qee_ qiv_ c1_) <|
   ee) (by kernel_rfl)

def qyi_ (a0 : W8) (r : NL) : Value := match r with
 | o0 => (nlV o0)
def qyj_ (a0 : W8) (r : NL) : AH := match r with
 | o0 => ⟨sB [], 0, 0⟩
abbrev G_reuseAllq1 (a0 : W8) (r : NL) : Prop := Gv P (.func 11) [(wlV a0)] ⟨sB [], 0, 0⟩ (qyi_ a0 r) (qyj_ a0 r)
abbrev qyk_ (a0 : W8) (r : NL) (ins outs : BL) : CallA := ⟨0, ins, qyi_ a0 r, qyj_ a0 r, outs⟩
def qfh_ (n : Nat) (a0 : W8) : Option (NL) :=
 (qdf_ n a0).bind fun _ =>
 (qec_ n a0).bind fun c2_ =>
 some c2_
theorem qsr_ (n : Nat) (a0 : W8) (r : NL) (h : qfh_ n a0 = some r) : G_reuseAllq1 a0 r := by
 unfold qfh_ at h
 obtain ⟨_, hc1, h⟩ := oB h
 obtain ⟨c2_, hc2, h⟩ := oB h
 obtain rfl := oI h
 exact runF2 hm (kW [2] [] 0 0) (yy 4 (.call (qre_ a0 () [] [(0, 0, false)])) <|
  ww (qnq_ n a0 () hc1) <|
  yy 5 (.call (qtb_ a0 c2_ [(0, 0, false)] [])) <|
  ww (qqd_ n a0 c2_ hc2) <|
  ee) (by kernel_rfl)

def qmv_ (a0 : W8) (a1 : Int) (r : Int) : Value := match r with
 | o0 => (i6 o0)
def qmw_ (a0 : W8) (a1 : Int) (r : Int) : AH := match r with
 | o0 => ⟨sB [], 0, 0⟩
abbrev qtc_ (a0 : W8) (a1 : Int) (r : Int) : Prop := Gv P (.func 29) [(wlV a0), (i6 a1)] ⟨sB [], 0, 0⟩ (qmv_ a0 a1 r) (qmw_ a0 a1 r)
abbrev qmx_ (a0 : W8) (a1 : Int) (r : Int) (ins outs : BL) : CallA := ⟨0, ins, qmv_ a0 a1 r, qmw_ a0 a1 r, outs⟩
def qda_ (n : Nat) (a0 : W8) (a1 : Int) : Option (Int) :=
 (qdl_ n a0 a1).bind fun c1_ =>
 if c1_ = true then
  (qc_ n a0 a1).bind fun c3_ =>
  some c3_
 else
  some 0
theorem qjj_ (n : Nat) (a0 : W8) (a1 : Int) (r : Int) (h : qda_ n a0 a1 = some r) : qtc_ a0 a1 r := by
 unfold qda_ at h
 obtain ⟨c1_, hc1, h⟩ := oB h
 have k0 := fun {A L l} (k : PL A L l) => yy 6 (.call (qnp_ a0 a1 c1_ [] [])) <|
  ww (qkn_ n a0 a1 c1_ hc1) <|
  k
 by_cases hc2 : c1_ = true
 ·rw [if_pos hc2] at h
  obtain ⟨c3_, hc3, h⟩ := oB h
  obtain rfl := oI h
  exact runF2 hm (kW [4] [] 0 0) (k0 <|
   yy 7 (vf) <|
   ww (p := (Value.bool (!c1_)) = (Value.bool false)) (vBn hc2) <|
   yy 12 (.call (qfy_ a0 a1 c3_ [] [])) <|
   ww (qef_ n a0 a1 c3_ hc3) <|
   ee) (by kernel_rfl)
 ·rw [if_neg hc2] at h
  obtain rfl := oI h
  exact runF2 hm (kW [4] [] 0 0) (k0 <|
   yy 7 (vt) <|
   ww (p := (Value.bool (!c1_)) = (Value.bool true)) (vBn (Bool.eq_false_iff.2 hc2)) <|
   ee) (by kernel_rfl)

def qmy_ (a0 : W8) (r : NL) : Value := match r with
 | o0 => (nlV o0)
def qmz_ (a0 : W8) (r : NL) : AH := match r with
 | o0 => ⟨sB [], 0, 0⟩
abbrev qtd_ (a0 : W8) (r : NL) : Prop := Gv P (.func 12) [(wlV a0)] ⟨sB [], 0, 0⟩ (qmy_ a0 r) (qmz_ a0 r)
abbrev qh1_ (a0 : W8) (r : NL) (ins outs : BL) : CallA := ⟨0, ins, qmy_ a0 r, qmz_ a0 r, outs⟩
def qe9_ (x1_0 : W8) (x1_2 : WL rw_b) (st : List Int × Int) : XSt := match st with
 | (x1_1, x1_3) => (sT 35 [(0, (wlV x1_0)), (3, (slN x1_1 0)), (4, (wlV x1_2)), (5, (i6 x1_3))], [], ⟨sB [(0, (nblk x1_1 3))], 1, 0⟩)
def qb3_ (x1_0 : W8) (x1_2 : WL rw_b) (r : List Int) : Ex × XSt := match r with
 | z1_0 => (.exit 0, (sT 35 [(3, (slN z1_0 0))], [], ⟨sB [(0, (nblk z1_0 3))], 1, 0⟩))
abbrev qrf_ (rnd : Option Nat) (x1_0 : W8) (x1_2 : WL rw_b) (st : List Int × Int) (c : Ex × XSt) : Prop := CG P rnd (fnN P 12) 0 (qw_ P 12 [false, false, true, false, true, true, true]) (qe9_ x1_0 x1_2 st) c
abbrev qgy_ (rd : Option Nat) (x1_0 : W8) (x1_2 : WL rw_b) (st : List Int × Int) (r : List Int) : Prop := CG P rd (fnN P 12) 0 (qw_ P 12 [false, true, false, true, true, true]) (qe9_ x1_0 x1_2 st) (qb3_ x1_0 x1_2 r)
def ql_ (n : Nat) (x1_0 : W8) (x1_2 : WL rw_b) (st : List Int × Int) : Option ((List Int × Int) ⊕ (List Int)) := match st with
 | (x1_1, x1_3) =>
  match x1_1 with
  | [] =>
   if x1_3 < (((x1_2).l.length : Nat) : Int) then
    if 0 ≤ x1_3 ∧ x1_3 < (((x1_0).l.length : Nat) : Int) then
     ((some (((x1_0).l).getD (x1_3).toNat (0, 0, 0, 0, 0, 0, nl0, 0)))).bind fun y1_3_ =>
     if (y1_3_.2.1) = (2 : Int) then
      if 0 ≤ x1_3 ∧ x1_3 < (((x1_2).l.length : Nat) : Int) then
       ((some (((x1_2).l).getD (x1_3).toNat (false)))).bind fun y1_6_ =>
       if y1_6_ = true then
        some (.inl (([] : List Int), (w64 (x1_3 + (1 : Int)))))
       else
        (qda_ n x1_0 x1_3).bind fun y1_8_ =>
        some (.inl ([x1_3], y1_8_))
      else none
     else
      some (.inl (([] : List Int), (w64 (x1_3 + (1 : Int)))))
    else none
   else
    some (.inr ([] : List Int))
  | x1_1a :: x1_1t =>
   if x1_3 < (((x1_2).l.length : Nat) : Int) then
    if 0 ≤ x1_3 ∧ x1_3 < (((x1_0).l.length : Nat) : Int) then
     ((some (((x1_0).l).getD (x1_3).toNat (0, 0, 0, 0, 0, 0, nl0, 0)))).bind fun y1_3_ =>
     if (y1_3_.2.1) = (2 : Int) then
      if 0 ≤ x1_3 ∧ x1_3 < (((x1_2).l.length : Nat) : Int) then
       ((some (((x1_2).l).getD (x1_3).toNat (false)))).bind fun y1_6_ =>
       if y1_6_ = true then
        some (.inl ((x1_1a :: x1_1t), (w64 (x1_3 + (1 : Int)))))
       else
        if (((x1_1a :: x1_1t)).length + 1) * 8 ≤ 140737488355328 then
         (qda_ n x1_0 x1_3).bind fun y1_9_ =>
         some (.inl (((x1_1a :: x1_1t) ++ [x1_3]), y1_9_))
        else none
      else none
     else
      some (.inl ((x1_1a :: x1_1t), (w64 (x1_3 + (1 : Int)))))
    else none
   else
    some (.inr (x1_1a :: x1_1t))
def qfa_ (n : Nat) (x1_0 : W8) (x1_2 : WL rw_b) (st : List Int × Int) : Option (List Int) := iterM (ql_ n x1_0 x1_2) n st
theorem qkq_ (n : Nat) {rnd : Option Nat} (x1_0 : W8) (x1_2 : WL rw_b) (st : List Int × Int) (o : (List Int × Int) ⊕ (List Int)) (h : ql_ n x1_0 x1_2 st = some o) : qrf_ rnd x1_0 x1_2 st (Sum.elim (fun s => (.normal, qe9_ x1_0 x1_2 s)) (fun r => qb3_ x1_0 x1_2 r) o) := by
 obtain ⟨x1_1, x1_3⟩ := st
 unfold ql_ at h
 dsimp only at h
 cases x1_1 with
 | nil =>
  dsimp only at h
  by_cases hy1_1 : x1_3 < (((x1_2).l.length : Nat) : Int)
  ·rw [if_pos hy1_1] at h
   obtain ⟨hy1_2, h⟩ := gd h
   obtain ⟨y1_3_, hy1_3, h⟩ := oB h
   have k0 := fun {A L l} (k : PL A L l) => zz 5 (xdT hy1_1) <|
    zz 11 (xk1 (x1_0).num (x1_0).off (x1_0).cap hy1_2) <|
    zz 12 (fk15 (x1_0).num (Nat.add (x1_0).off ((x1_3).toNat * 8))) <|
    zz 13 (lk16 hy1_3 (qba_ hy1_2)) <|
    k
   by_cases hy1_4 : (y1_3_.2.1) = (2 : Int)
   ·rw [if_pos hy1_4] at h
    obtain ⟨hy1_5, h⟩ := gd h
    obtain ⟨y1_6_, hy1_6, h⟩ := oB h
    have k4 := fun {A L l} (k : PL A L l) => zz 14 (xeT hy1_4) <|
     zz 18 (xk26 (x1_2).num (x1_2).off (x1_2).cap hy1_5) <|
     zz 19 (lk27 hy1_6 (qba_ hy1_5)) <|
     k
    by_cases hy1_7 : y1_6_ = true
    ·rw [if_pos hy1_7] at h
     obtain rfl := oI h
     exact runC2 hm (kW [0, 3, 4, 5] [] 1 0) (k0 <|
      k4 <|
      yy 20 (vf) <|
      ww (p := (Value.bool (!y1_6_)) = (Value.bool false)) (vBn hy1_7) <|
      ee) (by kernel_rfl)
    ·rw [if_neg hy1_7] at h
     obtain ⟨y1_8_, hy1_8, h⟩ := oB h
     obtain rfl := oI h
     exact runC2 hm (kW [0, 3, 4, 5] [(0, 2, false)] 1 0) (k0 <|
      k4 <|
      yy 20 (vt) <|
      ww (p := (Value.bool (!y1_6_)) = (Value.bool true)) (vBn (Bool.eq_false_iff.2 hy1_7)) <|
      yy 31 (.call (qmx_ x1_0 x1_3 y1_8_ [] [])) <|
      ww (qjj_ n x1_0 x1_3 y1_8_ hy1_8) <|
      ee) (by kernel_rfl)
   ·rw [if_neg hy1_4] at h
    obtain rfl := oI h
    exact runC2 hm (kW [0, 3, 4, 5] [] 1 0) (k0 <|
     zz 14 (xeF hy1_4) <|
     ee) (by kernel_rfl)
  ·rw [if_neg hy1_1] at h
   obtain rfl := oI h
   exact runC2 hm (kW [3] [] 1 0) (zz 5 (xdF hy1_1) <|
    ee) (by kernel_rfl)
 | cons x1_1a x1_1t =>
  dsimp only at h
  by_cases hy1_1 : x1_3 < (((x1_2).l.length : Nat) : Int)
  ·rw [if_pos hy1_1] at h
   obtain ⟨hy1_2, h⟩ := gd h
   obtain ⟨y1_3_, hy1_3, h⟩ := oB h
   have k0 := fun {A L l} (k : PL A L l) => zz 5 (xdT hy1_1) <|
    zz 11 (xk1 (x1_0).num (x1_0).off (x1_0).cap hy1_2) <|
    zz 12 (fk15 (x1_0).num (Nat.add (x1_0).off ((x1_3).toNat * 8))) <|
    zz 13 (lk16 hy1_3 (qba_ hy1_2)) <|
    k
   by_cases hy1_4 : (y1_3_.2.1) = (2 : Int)
   ·rw [if_pos hy1_4] at h
    obtain ⟨hy1_5, h⟩ := gd h
    obtain ⟨y1_6_, hy1_6, h⟩ := oB h
    have k4 := fun {A L l} (k : PL A L l) => zz 14 (xeT hy1_4) <|
     zz 18 (xk26 (x1_2).num (x1_2).off (x1_2).cap hy1_5) <|
     zz 19 (lk27 hy1_6 (qba_ hy1_5)) <|
     k
    by_cases hy1_7 : y1_6_ = true
    ·rw [if_pos hy1_7] at h
     obtain rfl := oI h
     exact runC2 hm (kW [0, 3, 4, 5] [(0, 0, true)] 1 0) (k0 <|
      k4 <|
      yy 20 (vf) <|
      ww (p := (Value.bool (!y1_6_)) = (Value.bool false)) (vBn hy1_7) <|
      ww (qdb_ (x1_1a :: x1_1t) 3) <|
      ee) (by kernel_rfl)
    ·rw [if_neg hy1_7] at h
     obtain ⟨hy1_8, h⟩ := gd h
     obtain ⟨y1_9_, hy1_9, h⟩ := oB h
     obtain rfl := oI h
     exact runC2 hm (kW [0, 3, 4, 5] [(0, 2, true)] 1 0) (k0 <|
      k4 <|
      yy 20 (vt) <|
      ww (p := (Value.bool (!y1_6_)) = (Value.bool true)) (vBn (Bool.eq_false_iff.2 hy1_7)) <|
      yy 27 (.app ⟨none, iv (x1_1a :: x1_1t), (iv ((x1_1a :: x1_1t) ++ [x1_3])), (((x1_1a :: x1_1t) ++ [x1_3])).length, false⟩) <|
      ww (p := 0 < 1) ((by decide)) <|
      ww (p := rdT (layT (iv (x1_1a :: x1_1t))) (Nat.mul ((x1_1a :: x1_1t)).length 1) 0 = some (iv (x1_1a :: x1_1t))) (iv_rd _) <|
      ww (p := fits (Nat.add ((x1_1a :: x1_1t)).length 1) 8 = true) (qmb_ hy1_8 (by have := hy1_8; show (_ : Nat) + _ ≤ _; omega)) <|
      ww (p := qbc_ [(i6 x1_3)] = true) (rfl) <|
      ww (p := qbc_ (iv (x1_1a :: x1_1t)) = true) (q0s_ _) <|
      ww (p := iv (x1_1a :: x1_1t) ++ [(i6 x1_3)] = (iv ((x1_1a :: x1_1t) ++ [x1_3]))) (by simp [iv]) <|
      ww (p := Nat.add ((x1_1a :: x1_1t)).length 1 = (((x1_1a :: x1_1t) ++ [x1_3])).length) (by simp) <|
      yy 31 (.call (qmx_ x1_0 x1_3 y1_9_ [] [])) <|
      ww (qjj_ n x1_0 x1_3 y1_9_ hy1_9) <|
      ww (qdb_ ((x1_1a :: x1_1t) ++ [x1_3]) 3) <|
      ee) (by kernel_rfl)
   ·rw [if_neg hy1_4] at h
    obtain rfl := oI h
    exact runC2 hm (kW [0, 3, 4, 5] [(0, 0, true)] 1 0) (k0 <|
     zz 14 (xeF hy1_4) <|
     ww (qdb_ (x1_1a :: x1_1t) 3) <|
     ee) (by kernel_rfl)
  ·rw [if_neg hy1_1] at h
   obtain rfl := oI h
   exact runC2 hm (kW [3] [(0, 0, true)] 1 0) (zz 5 (xdF hy1_1) <|
    ww (qdb_ (x1_1a :: x1_1t) 3) <|
    ee) (by kernel_rfl)
theorem qip_ (n : Nat) {rnd : Option Nat} (x1_0 : W8) (x1_2 : WL rw_b) (st : List Int × Int) (r : List Int) (h : qfa_ n x1_0 x1_2 st = some r) : qgy_ rnd x1_0 x1_2 st r :=
 CG.iter (b := qw_ P 12 [false, false, true, false, true, true, true]) (by kernel_rfl) (body := ql_ n x1_0 x1_2) (S := qe9_ x1_0 x1_2) (X := qb3_ x1_0 x1_2)
  (fun s s' h => qkq_ n x1_0 x1_2 s (.inl s') h)
  (fun s r h => qkq_ n x1_0 x1_2 s (.inr r) h)
  (fun r => by intro hx; cases hx) h
def qo_ (n : Nat) (a0 : W8) : Option (NL) :=
 (q0_ n a0).bind fun c1_ =>
 (qfa_ n a0 c1_ (([] : List Int), 0)).bind fun c2_ =>
 match c2_ with
 | [] =>
  some nl0
 | c2_a :: c2_t =>
  if hc3 : (c2_a :: c2_t).length ≤ 140737488355328 then
   some (frzL (c2_a :: c2_t) hc3)
  else none
theorem qgj_ (n : Nat) (a0 : W8) (r : NL) (h : qo_ n a0 = some r) : qtd_ a0 r := by
 unfold qo_ at h
 obtain ⟨c1_, hc1, h⟩ := oB h
 obtain ⟨c2_, hc2, h⟩ := oB h
 have k0 := fun {A L l} (k : PL A L l) => yy 6 (.call (qkm_ a0 c1_ [] [])) <|
  ww (qil_ n a0 c1_ hc1) <|
  k
 cases c2_ with
 | nil =>
  dsimp only at h
  obtain rfl := oI h
  exact runF2 hm ⟨[2], [], 0, 0, [], true, [], [], [2]⟩ (k0 <|
   ww (p := qgy_ none a0 c1_ (([] : List Int), 0) ([] : List Int)) (qip_ n a0 c1_ (([] : List Int), 0) ([] : List Int) hc2) <|
   ll 12 ⟨(kW [0, 3, 4, 5] [] 1 0), (qb3_ a0 c1_ ([] : List Int)).1, (qb3_ a0 c1_ ([] : List Int)).2⟩ <|
   ee) (by kernel_rfl)
 | cons c2_a c2_t =>
  dsimp only at h
  obtain ⟨hc3, h⟩ := gdD h
  obtain rfl := oI h
  exact runF2 hm ⟨[2], [], 0, 0, [(0, Nat.add (2 * cod (c2_a :: c2_t) + 1) 64)], true, [], [], []⟩ (k0 <|
   ww (p := qgy_ none a0 c1_ (([] : List Int), 0) (c2_a :: c2_t)) (qip_ n a0 c1_ (([] : List Int), 0) (c2_a :: c2_t) hc2) <|
   ll 12 ⟨(kW [0, 3, 4, 5] [] 1 0), (qb3_ a0 c1_ (c2_a :: c2_t)).1, (qb3_ a0 c1_ (c2_a :: c2_t)).2⟩ <|
   ww (frz_ok qee_ qiv_ (c2_a :: c2_t)) <|
   ee) (by kernel_rfl)

def qkr_ (a0 : NL) (a1 : NL) (r : Bool) : Value := match r with
 | o0 => (bO o0)
def qks_ (a0 : NL) (a1 : NL) (r : Bool) : AH := match r with
 | o0 => ⟨sB [], 0, 0⟩
abbrev qrg_ (a0 : NL) (a1 : NL) (r : Bool) : Prop := Gv P (.func 10) [(nlV a0), (nlV a1)] ⟨sB [], 0, 0⟩ (qkr_ a0 a1 r) (qks_ a0 a1 r)
abbrev qkt_ (a0 : NL) (a1 : NL) (r : Bool) (ins outs : BL) : CallA := ⟨0, ins, qkr_ a0 a1 r, qks_ a0 a1 r, outs⟩
def qdx_ (x1_0 : NL) (x1_1 : NL) (st : Int) : XSt := match st with
 | x1_2 => (sT 26 [(0, (nlV x1_0)), (1, (nlV x1_1)), (5, (i6 x1_2))], [], ⟨sB [], 0, 0⟩)
def qbp_ (x1_0 : NL) (x1_1 : NL) (r : (Unit) ⊕ (Unit)) : Ex × XSt := match r with
 | .inl _ => (.ret, (sT 26 [(4, (bO false))], [], ⟨sB [], 0, 0⟩))
 | .inr _ => (.exit 0, (sT 26 [], [], ⟨sB [], 0, 0⟩))
abbrev qf4_ (rd : Option Nat) (x1_0 : NL) (x1_1 : NL) (st : Int) (r : (Unit) ⊕ (Unit)) : Prop := CG P rd (fnN P 10) 0 (qw_ P 10 [false, true, false, true, true]) (qdx_ x1_0 x1_1 st) (qbp_ x1_0 x1_1 r)
def qbq_ (n : Nat) (x1_0 : NL) (x1_1 : NL) (st : Int) : Option ((Int) ⊕ ((Unit) ⊕ (Unit))) := match st with
 | x1_2 =>
  if x1_2 < (((x1_0).l.length : Nat) : Int) then
   if 0 ≤ x1_2 ∧ x1_2 < (((x1_0).l.length : Nat) : Int) then
    if (x1_2).toNat < ((x1_0).l).length then
     ((some (((x1_0).l).getD (x1_2).toNat 0))).bind fun y1_4_ =>
     if 0 ≤ x1_2 ∧ x1_2 < (((x1_1).l.length : Nat) : Int) then
      if (x1_2).toNat < ((x1_1).l).length then
       ((some (((x1_1).l).getD (x1_2).toNat 0))).bind fun y1_7_ =>
       if y1_4_ = y1_7_ then
        some (.inl (w64 (x1_2 + (1 : Int))))
       else
        some (.inr (.inl ()))
      else none
     else none
    else none
   else none
  else
   some (.inr (.inr ()))
def qdy_ (n : Nat) (x1_0 : NL) (x1_1 : NL) (st : Int) : Option ((Unit) ⊕ (Unit)) := iterM (qbq_ n x1_0 x1_1) n st
theorem qi5_ (n : Nat) {rnd : Option Nat} (x1_0 : NL) (x1_1 : NL) (x1_2 : Int) (o : (Int) ⊕ ((Unit) ⊕ (Unit))) (h : qbq_ n x1_0 x1_1 x1_2 = some o) : CG P rnd (fnN P 10) 0 (qw_ P 10 [false, false, true, false, true, true]) (qdx_ x1_0 x1_1 x1_2) (Sum.elim (fun s => (.normal, qdx_ x1_0 x1_1 s)) (fun r => qbp_ x1_0 x1_1 r) o) := by
 unfold qbq_ at h
 dsimp only at h
 by_cases hy1_1 : x1_2 < (((x1_0).l.length : Nat) : Int)
 ·rw [if_pos hy1_1] at h
  obtain ⟨hy1_2, h⟩ := gd h
  obtain ⟨hy1_3, h⟩ := gd h
  obtain ⟨y1_4_, hy1_4, h⟩ := oB h
  obtain ⟨hy1_5, h⟩ := gd h
  obtain ⟨hy1_6, h⟩ := gd h
  obtain ⟨y1_7_, hy1_7, h⟩ := oB h
  have k0 := fun {A L l} (k : PL A L l) => zz 5 (xdT hy1_1) <|
   zz 12 (xk8 (Nat.add (x1_0).num 64) (x1_0).off (x1_0).cap hy1_2) <|
   zz 13 (nk9 hy1_4 hy1_3) <|
   zz 16 (xk8 (Nat.add (x1_1).num 64) (x1_1).off (x1_1).cap hy1_5) <|
   zz 17 (nk9 hy1_7 hy1_6) <|
   k
  by_cases hy1_8 : y1_4_ = y1_7_
  ·rw [if_pos hy1_8] at h
   obtain rfl := oI h
   exact runC2 hm (kW [0, 1, 5] [] 0 0) (k0 <|
    zz 18 (xnF hy1_8) <|
    ee) (by kernel_rfl)
  ·rw [if_neg hy1_8] at h
   obtain rfl := oI h
   exact runC2 hm (kW [4] [] 0 0) (k0 <|
    zz 18 (xnT hy1_8) <|
    ee) (by kernel_rfl)
 ·rw [if_neg hy1_1] at h
  obtain rfl := oI h
  exact runC2 hm (kW [] [] 0 0) (zz 5 (xdF hy1_1) <|
   ee) (by kernel_rfl)
theorem qg8_ (n : Nat) {rnd : Option Nat} (x1_0 : NL) (x1_1 : NL) (st : Int) (r : (Unit) ⊕ (Unit)) (h : qdy_ n x1_0 x1_1 st = some r) : qf4_ rnd x1_0 x1_1 st r :=
 CG.iter (b := qw_ P 10 [false, false, true, false, true, true]) (by kernel_rfl) (body := qbq_ n x1_0 x1_1) (S := qdx_ x1_0 x1_1) (X := qbp_ x1_0 x1_1)
  (fun s s' h => qi5_ n x1_0 x1_1 s (.inl s') h)
  (fun s r h => qi5_ n x1_0 x1_1 s (.inr r) h)
  (fun r => by intro hx; rcases r with _ | _ <;> cases hx) h
def q2_ (n : Nat) (a0 : NL) (a1 : NL) : Option (Bool) :=
 if (((a0).l.length : Nat) : Int) = (((a1).l.length : Nat) : Int) then
  match qdy_ n a0 a1 0 with
  | none => none
  | some (.inl _) =>
   some false
  | some (.inr _) =>
   some true
 else
  some false
theorem qiq_ (n : Nat) (a0 : NL) (a1 : NL) (r : Bool) (h : q2_ n a0 a1 = some r) : qrg_ a0 a1 r := by
 unfold q2_ at h
 by_cases hc1 : (((a0).l.length : Nat) : Int) = (((a1).l.length : Nat) : Int)
 ·rw [if_pos hc1] at h
  have k0 := fun {A L l} (k : PL A L l) => zz 8 (xnF hc1) <|
   k
  rcases hc2 : qdy_ n a0 a1 0 with _ | (⟨⟩ | ⟨⟩)
  ·rw [hc2] at h; cases h
  ·rw [hc2] at h
   dsimp only at h
   obtain rfl := oI h
   exact runF2 hm (kW [4] [] 0 0) (k0 <|
    ww (p := qf4_ none a0 a1 0 (.inl ())) (qg8_ n a0 a1 0 (.inl ()) hc2) <|
    ll 14 ⟨(kW [0, 1, 5] [] 0 0), (qbp_ a0 a1 (.inl ())).1, (qbp_ a0 a1 (.inl ())).2⟩ <|
    ee) (by kernel_rfl)
  ·rw [hc2] at h
   dsimp only at h
   obtain rfl := oI h
   exact runF2 hm (kW [4] [] 0 0) (k0 <|
    ww (p := qf4_ none a0 a1 0 (.inr ())) (qg8_ n a0 a1 0 (.inr ()) hc2) <|
    ll 14 ⟨(kW [0, 1, 5] [] 0 0), (qbp_ a0 a1 (.inr ())).1, (qbp_ a0 a1 (.inr ())).2⟩ <|
    ee) (by kernel_rfl)
 ·rw [if_neg hc1] at h
  obtain rfl := oI h
  exact runF2 hm (kW [4] [] 0 0) (zz 8 (xnT hc1) <|
   ee) (by kernel_rfl)

def qss_ (a0 : Int) (a1 : Int) (a2 : W8) (r : Int) : Value := match r with
 | o0 => (i6 o0)
def qst_ (a0 : Int) (a1 : Int) (a2 : W8) (r : Int) : AH := match r with
 | o0 => ⟨sB [], 1, 1⟩
abbrev qyx_ (a0 : Int) (a1 : Int) (a2 : W8) (r : Int) : Prop := Gv P (.func 31) [(i6 a0), (i6 a1), (pN 0 0)] ⟨sB [(0, (cB [(wlV a2)] 22))], 1, 1⟩ (qss_ a0 a1 a2 r) (qst_ a0 a1 a2 r)
abbrev qsu_ (a0 : Int) (a1 : Int) (a2 : W8) (r : Int) (ins outs : BL) : CallA := ⟨1, ins, qss_ a0 a1 a2 r, qst_ a0 a1 a2 r, outs⟩
def qhq_ (n : Nat) (a0 : Int) (a1 : Int) (a2 : W8) : Option (Int) :=
 if 0 ≤ a1 ∧ a1 < (((a2).l.length : Nat) : Int) then
  ((some (((a2).l).getD (a1).toNat (0, 0, 0, 0, 0, 0, nl0, 0)))).bind fun c2_ =>
  ((some (w64 ((w64 (a0 + (c2_.2.2.2.2.1))) - (c2_.2.2.1))))).bind fun c3_ =>
  some c3_
 else none
theorem qo2_ (n : Nat) (a0 : Int) (a1 : Int) (a2 : W8) (r : Int) (h : qhq_ n a0 a1 a2 = some r) : qyx_ a0 a1 a2 r := by
 unfold qhq_ at h
 obtain ⟨hc1, h⟩ := gd h
 obtain ⟨c2_, hc2, h⟩ := oB h
 obtain ⟨c3_, hc3, h⟩ := oB h
 obtain rfl := oI h
 exact runF2 hm (kW [5] [] 1 1) (zz 6 (xk1 (a2).num (a2).off (a2).cap hc1) <|
  zz 7 (fk20 (a2).num (Nat.add (a2).off ((a1).toNat * 8))) <|
  zz 8 (lk21 hc2 (qba_ hc1)) <|
  zz 12 (xk1 (a2).num (a2).off (a2).cap hc1) <|
  zz 13 (fk18 (a2).num (Nat.add (a2).off ((a1).toNat * 8))) <|
  zz 14 (lk19 hc2 (qba_ hc1)) <|
  zz 15 (xnm hc3) <|
  ee) (by kernel_rfl)

def qqe_ (a0 : Int) (a1 : W8) (a2 : W8) (a3 : Int) (r : Int) : Value := match r with
 | o0 => (bO true)
def qqf_ (a0 : Int) (a1 : W8) (a2 : W8) (a3 : Int) (r : Int) : AH := match r with
 | o0 => ⟨sB [(0, (some (rblk P 30 [false, true, false, true] .ready none [(4, (pN 2 0)), (5, (pN 3 0)), (8, (Value.func (.func 50) #[] #[(pN 5 0)]))] 1))), (1, (some (.marks true))), (2, (cB [(i6 o0)] 3)), (3, (cB [(Value.func (.func 31) #[] #[(pN 4 0)])] 51)), (4, (cB [(wlV a1)] 22)), (5, (cB [(wlV a2)] 22))], 6, 0⟩
abbrev qqg_ (a0 : Int) (a1 : W8) (a2 : W8) (a3 : Int) (r : Int) : Prop := Gv P (.yield 0) [(i6 a3)] ⟨sB [(0, (some (rblk P 30 [false, true, false, true] .ready none [(4, (pN 2 0)), (5, (pN 3 0)), (8, (Value.func (.func 50) #[] #[(pN 5 0)]))] 1))), (1, (some (.marks true))), (2, (cB [(i6 a0)] 3)), (3, (cB [(Value.func (.func 31) #[] #[(pN 4 0)])] 51)), (4, (cB [(wlV a1)] 22)), (5, (cB [(wlV a2)] 22))], 6, 6⟩ (qqe_ a0 a1 a2 a3 r) (qqf_ a0 a1 a2 a3 r)
def qjk_ (n : Nat) (a0 : Int) (a1 : W8) (a2 : W8) (a3 : Int) : Option (Int) :=
 (qhq_ n a0 a3 a1).bind fun c1_ =>
 some c1_
theorem qyy_ (n : Nat) (a0 : Int) (a1 : W8) (a2 : W8) (a3 : Int) (r : Int) (h : qjk_ n a0 a1 a2 a3 = some r) : qqg_ a0 a1 a2 a3 r := by
 unfold qjk_ at h
 obtain ⟨c1_, hc1, h⟩ := oB h
 obtain rfl := oI h
 exact runY2 hm (kW [] (iD 6) 6 0) (ee) (yy 4 (.call (qsu_ a0 a3 a1 c1_ [(0, 4, false)] [])) <|
  ww (qo2_ n a0 a3 a1 c1_ hc1) <|
  ee) (by kernel_rfl)

def qjl_ (a0 : List Int) (a1 : W8) (a2 : W8) (a3 : Int) (r : List Int) : Value := match r with
 | o0 => (bO true)
def qjm_ (a0 : List Int) (a1 : W8) (a2 : W8) (a3 : Int) (r : List Int) : AH := match r with
 | o0 => ⟨sB [(0, (some (rblk P 30 [false, true, false, true] .ready none [(4, (pN 2 0)), (5, (pN 3 0)), (8, (Value.func (.func 50) #[] #[(pN 5 0)]))] 1))), (1, (some (.marks true))), (2, (cB (iv o0) 3)), (3, (cB [(Value.func (.func 31) #[] #[(pN 4 0)])] 51)), (4, (cB [(wlV a1)] 22)), (5, (cB [(wlV a2)] 22))], 6, 0⟩
abbrev qqh_ (a0 : List Int) (a1 : W8) (a2 : W8) (a3 : Int) (r : List Int) : Prop := Gv P (.yield 0) [(i6 a3)] ⟨sB [(0, (some (rblk P 30 [false, true, false, true] .ready none [(4, (pN 2 0)), (5, (pN 3 0)), (8, (Value.func (.func 50) #[] #[(pN 5 0)]))] 1))), (1, (some (.marks true))), (2, (cB (iv a0) 3)), (3, (cB [(Value.func (.func 31) #[] #[(pN 4 0)])] 51)), (4, (cB [(wlV a1)] 22)), (5, (cB [(wlV a2)] 22))], 6, 6⟩ (qjl_ a0 a1 a2 a3 r) (qjm_ a0 a1 a2 a3 r)
abbrev qqi_ (a0 : List Int) (a1 : W8) (a2 : W8) (a3 : Int) (r : List Int) (ins outs : BL) : CallA := ⟨6, ins, qjl_ a0 a1 a2 a3 r, qjm_ a0 a1 a2 a3 r, outs⟩
def qel_ (n : Nat) (a0 : List Int) (a1 : W8) (a2 : W8) (a3 : Int) : Option (List Int) :=
 if 0 < (a0).length then
  ((some ((a0).getD 0 0))).bind fun c2_ =>
  (qhq_ n c2_ a3 a1).bind fun c3_ =>
  some ((a0).set 0 c3_)
 else none
theorem qn4_ (n : Nat) (a0 : List Int) (a1 : W8) (a2 : W8) (a3 : Int) (r : List Int) (h : qel_ n a0 a1 a2 a3 = some r) : qqh_ a0 a1 a2 a3 r := by
 unfold qel_ at h
 obtain ⟨hc1, h⟩ := gd h
 obtain ⟨c2_, hc2, h⟩ := oB h
 obtain ⟨c3_, hc3, h⟩ := oB h
 obtain rfl := oI h
 exact runY2 hm (kW [] [(0, 0, false), (1, 1, false), (2, 2, true), (3, 3, false), (4, 4, false), (5, 5, false)] 6 0) (ee) (zz 2 (xivN hc2 (hc1)) <|
  yy 4 (.call (qsu_ c2_ a3 a1 c3_ [(0, 4, false)] [])) <|
  ww (qo2_ n c2_ a3 a1 c3_ hc3) <|
  yy 5 (.sto (layT (iv ((a0).set 0 c3_)))) <|
  ww (p := ∃ old, rdT (layT (iv a0)) 1 0 = some old) (Exists.elim (iv_st (a0) (0) (c3_) (hc1)) fun o h => ⟨o, h.1⟩) <|
  ww (p := layL [(i6 c3_)] 0 (layT (iv a0)) = layT (iv ((a0).set 0 c3_))) (Exists.elim (iv_st (a0) (0) (c3_) (hc1)) fun o h => h.2) <|
  ww (qdb_ ((a0).set 0 c3_) 3) <|
  ee) (by kernel_rfl)

def qp3_ (a0 : Int) (a1 : W8) (a2 : W8) (r : List Int) : Value := match r with
 | o0 => (Value.tuple #[])
def qp4_ (a0 : Int) (a1 : W8) (a2 : W8) (r : List Int) : AH := match r with
 | o0 => ⟨sB [(0, (cB [(wlV a2)] 22)), (1, (cB [(wlV a1)] 22)), (2, (cB (iv o0) 3)), (3, (cB [(Value.func (.func 31) #[] #[(pN 1 0)])] 51)), (4, (some (.marks true))), (5, (some (rblk P 30 [false, true, false, true] .ready none [(4, (pN 2 0)), (5, (pN 3 0)), (8, (Value.func (.func 50) #[] #[(pN 0 0)]))] 4)))], 6, 0⟩
abbrev qwc_ (a0 : Int) (a1 : W8) (a2 : W8) (r : List Int) : Prop := Gv P (.func 50) [(Value.func (.yield 5) #[] #[]), (pN 0 0)] ⟨sB [(0, (cB [(wlV a2)] 22)), (1, (cB [(wlV a1)] 22)), (2, (cB [(i6 a0)] 3)), (3, (cB [(Value.func (.func 31) #[] #[(pN 1 0)])] 51)), (4, (some (.marks true))), (5, (some (rblk P 30 [false, true, false, true] .ready none [(4, (pN 2 0)), (5, (pN 3 0)), (8, (Value.func (.func 50) #[] #[(pN 0 0)]))] 4)))], 6, 6⟩ (qp3_ a0 a1 a2 r) (qp4_ a0 a1 a2 r)
abbrev qwd_ (a0 : Int) (a1 : W8) (a2 : W8) (r : List Int) (ins outs : BL) : CallA := ⟨6, ins, qp3_ a0 a1 a2 r, qp4_ a0 a1 a2 r, outs⟩
def qgl_ (x1_0 : W8) (x1_1 : W8) (st : List Int × List (Bool) × Nat × Int) : XSt := match st with
 | (x1_2, x1_3, x1_4, x1_5) => (sT 26 [(0, (Value.func (.yield 5) #[] #[])), (1, (pN 0 0)), (3, (slKQ x1_3 6 x1_4 0 x1_4)), (4, (i6 x1_5))], [], ⟨sB [(0, (cB [(wlV x1_0)] 22)), (1, (cB [(wlV x1_1)] 22)), (2, (cB (iv x1_2) 3)), (3, (cB [(Value.func (.func 31) #[] #[(pN 1 0)])] 51)), (4, (some (.marks true))), (5, (some (rblk P 30 [false, true, false, true] .ready none [(4, (pN 2 0)), (5, (pN 3 0)), (8, (Value.func (.func 50) #[] #[(pN 0 0)]))] 4))), (6, (nblkR rw_b x1_3 4))], 7, 0⟩)
def qcr_ (x1_0 : W8) (x1_1 : W8) (r : List Int) : Ex × XSt := match r with
 | z1_0 => (.exit 0, (sT 26 [], [], ⟨sB [(0, (cB [(wlV x1_0)] 22)), (1, (cB [(wlV x1_1)] 22)), (2, (cB (iv z1_0) 3)), (3, (cB [(Value.func (.func 31) #[] #[(pN 1 0)])] 51)), (4, (some (.marks true))), (5, (some (rblk P 30 [false, true, false, true] .ready none [(4, (pN 2 0)), (5, (pN 3 0)), (8, (Value.func (.func 50) #[] #[(pN 0 0)]))] 4)))], 6, 0⟩))
abbrev quc_ (rnd : Option Nat) (x1_0 : W8) (x1_1 : W8) (st : List Int × List (Bool) × Nat × Int) (c : Ex × XSt) : Prop := CG P rnd (fnN P 50) 6 (qw_ P 50 [false, false, true, true]) (qgl_ x1_0 x1_1 st) c
abbrev qi6_ (rd : Option Nat) (x1_0 : W8) (x1_1 : W8) (st : List Int × List (Bool) × Nat × Int) (r : List Int) : Prop := CG P rd (fnN P 50) 6 (qw_ P 50 [false, true, true]) (qgl_ x1_0 x1_1 st) (qcr_ x1_0 x1_1 r)
def qt_ (n : Nat) (x1_0 : W8) (x1_1 : W8) (st : List Int × List (Bool) × Nat × Int) : Option ((List Int × List (Bool) × Nat × Int) ⊕ (List Int)) := match st with
 | (x1_2, x1_3, x1_4, x1_5) =>
  match x1_3 with
  | [] =>
   if x1_5 < (0 : Int) then
    (qe1_ n x1_0 x1_5).bind fun _ =>
    some (.inl (x1_2, ([] : List (Bool)), 0, (w64 (x1_5 + (1 : Int)))))
   else
    some (.inr x1_2)
  | x1_3a :: x1_3t =>
   if x1_5 < ((x1_4 : Nat) : Int) then
    (qcw_ n x1_0 (x1_3a :: x1_3t) x1_4 x1_4 x1_5).bind fun y1_2_ =>
    if y1_2_ = true then
     (qel_ n x1_2 x1_1 x1_0 x1_5).bind fun y1_4_ =>
     (qgw_ n x1_0 x1_5).bind fun y1_5_ =>
     some (.inl (y1_4_, (x1_3a :: x1_3t), x1_4, y1_5_))
    else
     some (.inl (x1_2, (x1_3a :: x1_3t), x1_4, (w64 (x1_5 + (1 : Int)))))
   else
    some (.inr x1_2)
def qfb_ (n : Nat) (x1_0 : W8) (x1_1 : W8) (st : List Int × List (Bool) × Nat × Int) : Option (List Int) := iterM (qt_ n x1_0 x1_1) n st
theorem qns_ (n : Nat) {rnd : Option Nat} (x1_0 : W8) (x1_1 : W8) (st : List Int × List (Bool) × Nat × Int) (o : (List Int × List (Bool) × Nat × Int) ⊕ (List Int)) (h : qt_ n x1_0 x1_1 st = some o) : quc_ rnd x1_0 x1_1 st (Sum.elim (fun s => (.normal, qgl_ x1_0 x1_1 s)) (fun r => qcr_ x1_0 x1_1 r) o) := by
 obtain ⟨x1_2, x1_3, x1_4, x1_5⟩ := st
 unfold qt_ at h
 dsimp only at h
 cases x1_3 with
 | nil =>
  dsimp only at h
  by_cases hy1_1 : x1_5 < (0 : Int)
  ·rw [if_pos hy1_1] at h
   obtain ⟨_, hy1_2, h⟩ := oB h
   obtain rfl := oI h
   exact runC2 hm (kW [0, 1, 3, 4] [(0, 0, false), (1, 1, false), (2, 2, true), (3, 3, false), (4, 4, false), (5, 5, false)] 7 0) (zz 5 (xdT hy1_1) <|
    yy 17 (.call (qhx_ x1_0 x1_5 () [] [])) <|
    ww (qfx_ n x1_0 x1_5 () hy1_2) <|
    ww (qdb_ x1_2 3) <|
    ee) (by kernel_rfl)
  ·rw [if_neg hy1_1] at h
   obtain rfl := oI h
   exact runC2 hm (kW [] [(0, 0, false), (1, 1, false), (2, 2, true), (3, 3, false), (4, 4, false), (5, 5, false)] 6 0) (zz 5 (xdF hy1_1) <|
    ww (qdb_ x1_2 3) <|
    ee) (by kernel_rfl)
 | cons x1_3a x1_3t =>
  dsimp only at h
  by_cases hy1_1 : x1_5 < ((x1_4 : Nat) : Int)
  ·rw [if_pos hy1_1] at h
   obtain ⟨y1_2_, hy1_2, h⟩ := oB h
   have k0 := fun {A L l} (k : PL A L l) => zz 5 (xdT hy1_1) <|
    yy 17 (.call (qhw_ x1_0 (x1_3a :: x1_3t) x1_4 x1_4 x1_5 y1_2_ [(0, 6, true)] [])) <|
    ww (qfv_ n x1_0 (x1_3a :: x1_3t) x1_4 x1_4 x1_5 y1_2_ hy1_2) <|
    ww (qb_ rwf_b (x1_3a :: x1_3t) 4) <|
    k
   by_cases hy1_3 : y1_2_ = true
   ·rw [if_pos hy1_3] at h
    obtain ⟨y1_4_, hy1_4, h⟩ := oB h
    obtain ⟨y1_5_, hy1_5, h⟩ := oB h
    obtain rfl := oI h
    exact runC2 hm (kW [0, 1, 3, 4] [(0, 0, false), (1, 1, false), (2, 2, true), (3, 3, false), (4, 4, false), (5, 5, false), (6, 6, true)] 7 0) (k0 <|
     zz 18 (xbT hy1_3) <|
     yy 23 (.call (qqi_ x1_2 x1_1 x1_0 x1_5 y1_4_ [(0, 5, false), (1, 4, false), (2, 2, true), (3, 3, false), (4, 1, false), (5, 0, false)] [(5, 0, false), (4, 1, false), (2, 2, true), (3, 3, false), (1, 4, false), (0, 5, false)])) <|
     ww (qn4_ n x1_2 x1_1 x1_0 x1_5 y1_4_ hy1_4) <|
     ww (qdb_ x1_2 3) <|
     ww (qdb_ y1_4_ 3) <|
     yy 28 (.call (qs9_ x1_0 x1_5 y1_5_ [] [])) <|
     ww (qn3_ n x1_0 x1_5 y1_5_ hy1_5) <|
     ww (qdb_ y1_4_ 3) <|
     ww (qb_ rwf_b (x1_3a :: x1_3t) 4) <|
     ee) (by kernel_rfl)
   ·rw [if_neg hy1_3] at h
    obtain rfl := oI h
    exact runC2 hm (kW [0, 1, 3, 4] [(0, 0, false), (1, 1, false), (2, 2, true), (3, 3, false), (4, 4, false), (5, 5, false), (6, 6, true)] 7 0) (k0 <|
     zz 18 (xbF hy1_3) <|
     ww (qdb_ x1_2 3) <|
     ww (qb_ rwf_b (x1_3a :: x1_3t) 4) <|
     ee) (by kernel_rfl)
  ·rw [if_neg hy1_1] at h
   obtain rfl := oI h
   exact runC2 hm (kW [] [(0, 0, false), (1, 1, false), (2, 2, true), (3, 3, false), (4, 4, false), (5, 5, false)] 6 0) (zz 5 (xdF hy1_1) <|
    ww (qdb_ x1_2 3) <|
    ee) (by kernel_rfl)
theorem qku_ (n : Nat) {rnd : Option Nat} (x1_0 : W8) (x1_1 : W8) (st : List Int × List (Bool) × Nat × Int) (r : List Int) (h : qfb_ n x1_0 x1_1 st = some r) : qi6_ rnd x1_0 x1_1 st r :=
 CG.iter (b := qw_ P 50 [false, false, true, true]) (by kernel_rfl) (body := qt_ n x1_0 x1_1) (S := qgl_ x1_0 x1_1) (X := qcr_ x1_0 x1_1)
  (fun s s' h => qns_ n x1_0 x1_1 s (.inl s') h)
  (fun s r h => qns_ n x1_0 x1_1 s (.inr r) h)
  (fun r => by intro hx; cases hx) h
def qdp_ (n : Nat) (a0 : Int) (a1 : W8) (a2 : W8) : Option (List Int) :=
 match qch_ n a2 with
 | none => none
 | some (.inl c1_) =>
  match c1_ with
  | [] =>
   none
  | c1_a :: c1_t =>
   (qfb_ n a2 a1 ([a0], (c1_a :: c1_t), (((((a2).l.length : Nat) : Int)).toNat), 0)).bind fun c2_ =>
   some c2_
 | some (.inr _) =>
  (qfb_ n a2 a1 ([a0], ([] : List (Bool)), 0, 0)).bind fun c2_ =>
  some c2_
theorem qte_ (n : Nat) (a0 : Int) (a1 : W8) (a2 : W8) (r : List Int) (h : qdp_ n a0 a1 a2 = some r) : qwc_ a0 a1 a2 r := by
 unfold qdp_ at h
 rcases hc1 : qch_ n a2 with _ | (c1_ | ⟨⟩)
 ·rw [hc1] at h; cases h
 ·rw [hc1] at h
  dsimp only at h
  cases c1_ with
  | nil =>
   dsimp only at h
   cases h
  | cons c1_a c1_t =>
   dsimp only at h
   obtain ⟨c2_, hc2, h⟩ := oB h
   obtain rfl := oI h
   exact runF2 hm (kW [] [(0, 0, false), (1, 1, false), (2, 2, true), (3, 3, false), (4, 4, false), (5, 5, false)] 6 0) (yy 2 (.call (qif_ a2 (.inl (c1_a :: c1_t)) [] [(7, 1, true)])) <|
    ww (qfk_ n a2 (.inl (c1_a :: c1_t)) hc1) <|
    ww (qb_ rwf_b (c1_a :: c1_t) 4) <|
    ww (p := qi6_ none a2 a1 ([a0], (c1_a :: c1_t), (((((a2).l.length : Nat) : Int)).toNat), 0) c2_) (qku_ n a2 a1 ([a0], (c1_a :: c1_t), (((((a2).l.length : Nat) : Int)).toNat), 0) c2_ hc2) <|
    ww (qb_ rwf_b (c1_a :: c1_t) 4) <|
    ll 7 ⟨(kW [0, 1, 3, 4] [(0, 0, false), (1, 1, false), (2, 2, false), (3, 3, false), (4, 4, false), (5, 5, false), (6, 7, true)] 7 0), (qcr_ a2 a1 c2_).1, (qcr_ a2 a1 c2_).2⟩ <|
    ww (qdb_ c2_ 3) <|
    ee) (by kernel_rfl)
 ·rw [hc1] at h
  dsimp only at h
  obtain ⟨c2_, hc2, h⟩ := oB h
  obtain rfl := oI h
  exact runF2 hm (kW [] [(0, 0, false), (1, 1, false), (2, 2, true), (3, 3, false), (4, 4, false), (5, 5, false)] 6 0) (yy 2 (.call (qif_ a2 (.inr ()) [] [])) <|
   ww (qfk_ n a2 (.inr ()) hc1) <|
   ww (p := qi6_ none a2 a1 ([a0], ([] : List (Bool)), 0, 0) c2_) (qku_ n a2 a1 ([a0], ([] : List (Bool)), 0, 0) c2_ hc2) <|
   ll 7 ⟨(kW [0, 1, 3, 4] (iD 6) 7 0), (qcr_ a2 a1 c2_).1, (qcr_ a2 a1 c2_).2⟩ <|
   ww (qdb_ c2_ 3) <|
   ee) (by kernel_rfl)

def qo3_ (a0 : W8) (a1 : Int) (a2 : W8) (r : Int) : Value := match r with
 | o0 => (i6 o0)
def qo4_ (a0 : W8) (a1 : Int) (a2 : W8) (r : Int) : AH := match r with
 | o0 => ⟨sB [(0, (cB [(wlV a0)] 22)), (1, (cB [(wlV a2)] 22)), (2, (some (.marks false)))], 3, 0⟩
abbrev qu6_ (a0 : W8) (a1 : Int) (a2 : W8) (r : Int) : Prop := Gv P (.func 30) [(Value.func (.func 50) #[] #[(pN 0 0)]), (i6 a1), (Value.func (.func 31) #[] #[(pN 1 0)])] ⟨sB [(0, (cB [(wlV a0)] 22)), (1, (cB [(wlV a2)] 22))], 2, 2⟩ (qo3_ a0 a1 a2 r) (qo4_ a0 a1 a2 r)
abbrev qu7_ (a0 : W8) (a1 : Int) (a2 : W8) (r : Int) (ins outs : BL) : CallA := ⟨2, ins, qo3_ a0 a1 a2 r, qo4_ a0 a1 a2 r, outs⟩
def qfo_ (n : Nat) (a0 : W8) (a1 : Int) (a2 : W8) : Option (Int) :=
 (qdp_ n a1 a2 a0).bind fun c1_ =>
 if 0 < (c1_).length then
  ((some ((c1_).getD 0 0))).bind fun c3_ =>
  some c3_
 else none
theorem qr6_ (n : Nat) (a0 : W8) (a1 : Int) (a2 : W8) (r : Int) (h : qfo_ n a0 a1 a2 = some r) : qu6_ a0 a1 a2 r := by
 unfold qfo_ at h
 obtain ⟨c1_, hc1, h⟩ := oB h
 obtain ⟨hc2, h⟩ := gd h
 obtain ⟨c3_, hc3, h⟩ := oB h
 obtain rfl := oI h
 exact runF2 hm (kW [6] [(0, 0, false), (1, 1, false), (2, 4, false)] 3 0) (yy 8 (.rng (qwd_ a1 a2 a0 c1_ (iD 6) [(0, 0, false), (1, 1, false), (2, 2, true), (3, 3, false), (4, 4, false), (5, 5, false)]) [4, 5, 8]) <|
  ww (qte_ n a1 a2 a0 c1_ hc1) <|
  ww (qdb_ c1_ 3) <|
  zz 10 (xivN hc3 (hc2)) <|
  ee) (by kernel_rfl)

def qud_ (a0 : W8) (r : Int) : Value := match r with
 | o0 => (i6 o0)
def que_ (a0 : W8) (r : Int) : AH := match r with
 | o0 => ⟨sB [], 0, 0⟩
abbrev q04_ (a0 : W8) (r : Int) : Prop := Gv P (.func 13) [(wlV a0)] ⟨sB [], 0, 0⟩ (qud_ a0 r) (que_ a0 r)
abbrev quf_ (a0 : W8) (r : Int) (ins outs : BL) : CallA := ⟨0, ins, qud_ a0 r, que_ a0 r, outs⟩
def qdz_ (n : Nat) (a0 : W8) : Option (Int) :=
 (qdf_ n a0).bind fun _ =>
 (qfo_ n a0 0 a0).bind fun c2_ =>
 some c2_
theorem qp5_ (n : Nat) (a0 : W8) (r : Int) (h : qdz_ n a0 = some r) : q04_ a0 r := by
 unfold qdz_ at h
 obtain ⟨_, hc1, h⟩ := oB h
 obtain ⟨c2_, hc2, h⟩ := oB h
 obtain rfl := oI h
 exact runF2 hm (kW [2] [] 0 0) (yy 5 (.call (qre_ a0 () [] [(1, 0, false)])) <|
  ww (qnq_ n a0 () hc1) <|
  yy 7 (.call (qu7_ a0 0 a0 c2_ [(0, 1, false), (1, 0, false)] [(1, 0, false), (0, 1, false)])) <|
  ww (qr6_ n a0 0 a0 c2_ hc2) <|
  ee) (by kernel_rfl)

def qkv_ (a0 : W8) (r : Int) : Value := match r with
 | o0 => (i6 o0)
def qkw_ (a0 : W8) (r : Int) : AH := match r with
 | o0 => ⟨sB [], 0, 0⟩
abbrev qrh_ (a0 : W8) (r : Int) : Prop := Gv P (.func 14) [(wlV a0)] ⟨sB [], 0, 0⟩ (qkv_ a0 r) (qkw_ a0 r)
abbrev qkx_ (a0 : W8) (r : Int) (ins outs : BL) : CallA := ⟨0, ins, qkv_ a0 r, qkw_ a0 r, outs⟩
def qd0_ (x1_0 : W8) (x1_2 : NL) (st : Int × Int) : XSt := match st with
 | (x1_1, x1_3) => (sT 34 [(0, (wlV x1_0)), (3, (i6 x1_1)), (4, (nlV x1_2)), (5, (i6 x1_3))], [], ⟨sB [], 0, 0⟩)
def qcs_ (x1_0 : W8) (x1_2 : NL) (r : Int) : Ex × XSt := match r with
 | z1_0 => (.exit 0, (sT 34 [(3, (i6 z1_0))], [], ⟨sB [], 0, 0⟩))
abbrev qpn_ (rnd : Option Nat) (x1_0 : W8) (x1_2 : NL) (st : Int × Int) (c : Ex × XSt) : Prop := CG P rnd (fnN P 14) 0 (qw_ P 14 [false, false, true, false, true, true, true]) (qd0_ x1_0 x1_2 st) c
abbrev qi7_ (rd : Option Nat) (x1_0 : W8) (x1_2 : NL) (st : Int × Int) (r : Int) : Prop := CG P rd (fnN P 14) 0 (qw_ P 14 [false, true, false, true, true, true]) (qd0_ x1_0 x1_2 st) (qcs_ x1_0 x1_2 r)
def q3_ (n : Nat) (x1_0 : W8) (x1_2 : NL) (st : Int × Int) : Option ((Int × Int) ⊕ (Int)) := match st with
 | (x1_1, x1_3) =>
  if x1_3 < (((x1_2).l.length : Nat) : Int) then
   if 0 ≤ x1_3 ∧ x1_3 < (((x1_2).l.length : Nat) : Int) then
    if (x1_3).toNat < ((x1_2).l).length then
     ((some (((x1_2).l).getD (x1_3).toNat 0))).bind fun y1_4_ =>
     if 0 ≤ y1_4_ ∧ y1_4_ < (((x1_0).l.length : Nat) : Int) then
      ((some (((x1_0).l).getD (y1_4_).toNat (0, 0, 0, 0, 0, 0, nl0, 0)))).bind fun y1_6_ =>
      ((some (w64 ((w64 (x1_1 + (y1_6_.2.2.2.2.1))) - (y1_6_.2.2.1))))).bind fun y1_7_ =>
      some (.inl (y1_7_, (w64 (x1_3 + (1 : Int)))))
     else none
    else none
   else none
  else
   some (.inr x1_1)
def qd1_ (n : Nat) (x1_0 : W8) (x1_2 : NL) (st : Int × Int) : Option (Int) := iterM (q3_ n x1_0 x1_2) n st
theorem qi8_ (n : Nat) {rnd : Option Nat} (x1_0 : W8) (x1_2 : NL) (st : Int × Int) (o : (Int × Int) ⊕ (Int)) (h : q3_ n x1_0 x1_2 st = some o) : qpn_ rnd x1_0 x1_2 st (Sum.elim (fun s => (.normal, qd0_ x1_0 x1_2 s)) (fun r => qcs_ x1_0 x1_2 r) o) := by
 obtain ⟨x1_1, x1_3⟩ := st
 unfold q3_ at h
 dsimp only at h
 by_cases hy1_1 : x1_3 < (((x1_2).l.length : Nat) : Int)
 ·rw [if_pos hy1_1] at h
  obtain ⟨hy1_2, h⟩ := gd h
  obtain ⟨hy1_3, h⟩ := gd h
  obtain ⟨y1_4_, hy1_4, h⟩ := oB h
  obtain ⟨hy1_5, h⟩ := gd h
  obtain ⟨y1_6_, hy1_6, h⟩ := oB h
  obtain ⟨y1_7_, hy1_7, h⟩ := oB h
  obtain rfl := oI h
  exact runC2 hm (kW [0, 3, 4, 5] [] 0 0) (zz 5 (xdT hy1_1) <|
   zz 13 (xk8 (Nat.add (x1_2).num 64) (x1_2).off (x1_2).cap hy1_2) <|
   zz 14 (nk9 hy1_4 hy1_3) <|
   zz 15 (xk1 (x1_0).num (x1_0).off (x1_0).cap hy1_5) <|
   zz 16 (fk20 (x1_0).num (Nat.add (x1_0).off ((y1_4_).toNat * 8))) <|
   zz 17 (lk21 hy1_6 (qba_ hy1_5)) <|
   zz 22 (xk8 (Nat.add (x1_2).num 64) (x1_2).off (x1_2).cap hy1_2) <|
   zz 23 (nk9 hy1_4 hy1_3) <|
   zz 24 (xk1 (x1_0).num (x1_0).off (x1_0).cap hy1_5) <|
   zz 25 (fk18 (x1_0).num (Nat.add (x1_0).off ((y1_4_).toNat * 8))) <|
   zz 26 (lk19 hy1_6 (qba_ hy1_5)) <|
   zz 27 (xnm hy1_7) <|
   ee) (by kernel_rfl)
 ·rw [if_neg hy1_1] at h
  obtain rfl := oI h
  exact runC2 hm (kW [3] [] 0 0) (zz 5 (xdF hy1_1) <|
   ee) (by kernel_rfl)
theorem qm4_ (n : Nat) {rnd : Option Nat} (x1_0 : W8) (x1_2 : NL) (st : Int × Int) (r : Int) (h : qd1_ n x1_0 x1_2 st = some r) : qi7_ rnd x1_0 x1_2 st r :=
 CG.iter (b := qw_ P 14 [false, false, true, false, true, true, true]) (by kernel_rfl) (body := q3_ n x1_0 x1_2) (S := qd0_ x1_0 x1_2) (X := qcs_ x1_0 x1_2)
  (fun s s' h => qi8_ n x1_0 x1_2 s (.inl s') h)
  (fun s r h => qi8_ n x1_0 x1_2 s (.inr r) h)
  (fun r => by intro hx; cases hx) h
def q4_ (n : Nat) (a0 : W8) : Option (Int) :=
 (qo_ n a0).bind fun c1_ =>
 (qd1_ n a0 c1_ (0, 0)).bind fun c2_ =>
 some c2_
theorem qir_ (n : Nat) (a0 : W8) (r : Int) (h : q4_ n a0 = some r) : qrh_ a0 r := by
 unfold q4_ at h
 obtain ⟨c1_, hc1, h⟩ := oB h
 obtain ⟨c2_, hc2, h⟩ := oB h
 obtain rfl := oI h
 exact runF2 hm (kW [2] [] 0 0) (yy 6 (.call (qh1_ a0 c1_ [] [])) <|
  ww (qgj_ n a0 c1_ hc1) <|
  ww (p := qi7_ none a0 c1_ (0, 0) c2_) (qm4_ n a0 c1_ (0, 0) c2_ hc2) <|
  ll 12 ⟨(kW [0, 3, 4, 5] [] 0 0), (qcs_ a0 c1_ c2_).1, (qcs_ a0 c1_ c2_).2⟩ <|
  ee) (by kernel_rfl)

def qjn_ (a0 : W8) (r : Unit) : Value := match r with
 | _ => (Value.func (.func 54) #[] #[(pN 0 0)])
def qjo_ (a0 : W8) (r : Unit) : AH := match r with
 | _ => ⟨sB [(0, (cB [(wlV a0)] 22))], 1, 0⟩
abbrev qqj_ (a0 : W8) (r : Unit) : Prop := Gv P (.func 34) [(wlV a0)] ⟨sB [], 0, 0⟩ (qjn_ a0 r) (qjo_ a0 r)
abbrev qqk_ (a0 : W8) (r : Unit) (ins outs : BL) : CallA := ⟨0, ins, qjn_ a0 r, qjo_ a0 r, outs⟩
def qem_ (n : Nat) (a0 : W8) : Option (Unit) :=
 some ()
theorem qn5_ (n : Nat) (a0 : W8) (r : Unit) (h : qem_ n a0 = some r) : qqj_ a0 r := by
 unfold qem_ at h
 obtain rfl := oI h
 exact runF2 hm (kW [2] [(0, 0, false)] 1 0) (ee) (by kernel_rfl)

def qug_ (a0 : Int) (a1 : Int) (a2 : Int) (a3 : Int) (a4 : Int) (a5 : Int) (a6 : Int) (a7 : NL) (a8 : Int) (r : Unit) : Value := match r with
 | _ => (i6 (maxB a0 a6))
def quh_ (a0 : Int) (a1 : Int) (a2 : Int) (a3 : Int) (a4 : Int) (a5 : Int) (a6 : Int) (a7 : NL) (a8 : Int) (r : Unit) : AH := match r with
 | _ => ⟨sB [], 0, 0⟩
abbrev q05_ (a0 : Int) (a1 : Int) (a2 : Int) (a3 : Int) (a4 : Int) (a5 : Int) (a6 : Int) (a7 : NL) (a8 : Int) (r : Unit) : Prop := Gv P (.func 35) [(i6 a0), (Value.agg #[(i6 a1), (i6 a2), (i6 a3), (i6 a4), (i6 a5), (i6 a6), (nlV a7), (Value.int .u64 a8)])] ⟨sB [], 0, 0⟩ (qug_ a0 a1 a2 a3 a4 a5 a6 a7 a8 r) (quh_ a0 a1 a2 a3 a4 a5 a6 a7 a8 r)
abbrev q06_ (a0 : Int) (a1 : Int) (a2 : Int) (a3 : Int) (a4 : Int) (a5 : Int) (a6 : Int) (a7 : NL) (a8 : Int) (r : Unit) (ins outs : BL) : CallA := ⟨0, ins, qug_ a0 a1 a2 a3 a4 a5 a6 a7 a8 r, quh_ a0 a1 a2 a3 a4 a5 a6 a7 a8 r, outs⟩
def qls_ (n : Nat) (a0 : Int) (a1 : Int) (a2 : Int) (a3 : Int) (a4 : Int) (a5 : Int) (a6 : Int) (a7 : NL) (a8 : Int) : Option (Unit) :=
 some ()
theorem qwe_ (n : Nat) (a0 : Int) (a1 : Int) (a2 : Int) (a3 : Int) (a4 : Int) (a5 : Int) (a6 : Int) (a7 : NL) (a8 : Int) (r : Unit) (h : qls_ n a0 a1 a2 a3 a4 a5 a6 a7 a8 = some r) : q05_ a0 a1 a2 a3 a4 a5 a6 a7 a8 r := by
 unfold qls_ at h
 obtain rfl := oI h
 exact runF2 hm (kW [4] [] 0 0) (ee) (by kernel_rfl)

def qg9_ (a0 : Int) (a1 : W8) (a2 : Int) (a3 : Int) (a4 : Int) (a5 : Int) (a6 : Int) (a7 : Int) (a8 : NL) (a9 : Int) (r : Unit) : Value := match r with
 | _ => (bO true)
def qha_ (a0 : Int) (a1 : W8) (a2 : Int) (a3 : Int) (a4 : Int) (a5 : Int) (a6 : Int) (a7 : Int) (a8 : NL) (a9 : Int) (r : Unit) : AH := match r with
 | _ => ⟨sB [(0, (some (rblk P 33 [false, true, false, true] .ready none [(4, (pN 2 0)), (5, (pN 3 0)), (8, (Value.func (.func 54) #[] #[(pN 4 0)]))] 1))), (1, (some (.marks true))), (2, (cB [(i6 (maxB a0 a7))] 3)), (3, (cB [(Value.func (.func 35) #[] #[])] 58)), (4, (cB [(wlV a1)] 22))], 5, 0⟩
abbrev qm5_ (a0 : Int) (a1 : W8) (a2 : Int) (a3 : Int) (a4 : Int) (a5 : Int) (a6 : Int) (a7 : Int) (a8 : NL) (a9 : Int) (r : Unit) : Prop := Gv P (.yield 0) [(Value.agg #[(i6 a2), (i6 a3), (i6 a4), (i6 a5), (i6 a6), (i6 a7), (nlV a8), (Value.int .u64 a9)])] ⟨sB [(0, (some (rblk P 33 [false, true, false, true] .ready none [(4, (pN 2 0)), (5, (pN 3 0)), (8, (Value.func (.func 54) #[] #[(pN 4 0)]))] 1))), (1, (some (.marks true))), (2, (cB [(i6 a0)] 3)), (3, (cB [(Value.func (.func 35) #[] #[])] 58)), (4, (cB [(wlV a1)] 22))], 5, 5⟩ (qg9_ a0 a1 a2 a3 a4 a5 a6 a7 a8 a9 r) (qha_ a0 a1 a2 a3 a4 a5 a6 a7 a8 a9 r)
abbrev qm6_ (a0 : Int) (a1 : W8) (a2 : Int) (a3 : Int) (a4 : Int) (a5 : Int) (a6 : Int) (a7 : Int) (a8 : NL) (a9 : Int) (r : Unit) (ins outs : BL) : CallA := ⟨5, ins, qg9_ a0 a1 a2 a3 a4 a5 a6 a7 a8 a9 r, qha_ a0 a1 a2 a3 a4 a5 a6 a7 a8 a9 r, outs⟩
def qc2_ (n : Nat) (a0 : Int) (a1 : W8) (a2 : Int) (a3 : Int) (a4 : Int) (a5 : Int) (a6 : Int) (a7 : Int) (a8 : NL) (a9 : Int) : Option (Unit) :=
 (qls_ n a0 a2 a3 a4 a5 a6 a7 a8 a9).bind fun _ =>
 some ()
theorem qk4_ (n : Nat) (a0 : Int) (a1 : W8) (a2 : Int) (a3 : Int) (a4 : Int) (a5 : Int) (a6 : Int) (a7 : Int) (a8 : NL) (a9 : Int) (r : Unit) (h : qc2_ n a0 a1 a2 a3 a4 a5 a6 a7 a8 a9 = some r) : qm5_ a0 a1 a2 a3 a4 a5 a6 a7 a8 a9 r := by
 unfold qc2_ at h
 obtain ⟨_, hc1, h⟩ := oB h
 obtain rfl := oI h
 exact runY2 hm (kW [] (iD 5) 5 0) (ee) (yy 4 (.call (q06_ a0 a2 a3 a4 a5 a6 a7 a8 a9 () [] [])) <|
  ww (qwe_ n a0 a2 a3 a4 a5 a6 a7 a8 a9 () hc1) <|
  ee) (by kernel_rfl)

def qi9_ (a0 : Int) (a1 : W8) (r : Int) : Value := match r with
 | o0 => (Value.tuple #[])
def qja_ (a0 : Int) (a1 : W8) (r : Int) : AH := match r with
 | o0 => ⟨sB [(0, (some (rblk P 33 [false, true, false, true] .ready none [(4, (pN 2 0)), (5, (pN 3 0)), (8, (Value.func (.func 54) #[] #[(pN 4 0)]))] 1))), (1, (some (.marks true))), (2, (cB [(i6 o0)] 3)), (3, (cB [(Value.func (.func 35) #[] #[])] 58)), (4, (cB [(wlV a1)] 22))], 5, 0⟩
abbrev qpo_ (a0 : Int) (a1 : W8) (r : Int) : Prop := Gv P (.func 54) [(Value.func (.yield 0) #[] #[]), (pN 4 0)] ⟨sB [(0, (some (rblk P 33 [false, true, false, true] .ready none [(4, (pN 2 0)), (5, (pN 3 0)), (8, (Value.func (.func 54) #[] #[(pN 4 0)]))] 1))), (1, (some (.marks true))), (2, (cB [(i6 a0)] 3)), (3, (cB [(Value.func (.func 35) #[] #[])] 58)), (4, (cB [(wlV a1)] 22))], 5, 5⟩ (qi9_ a0 a1 r) (qja_ a0 a1 r)
abbrev qpp_ (a0 : Int) (a1 : W8) (r : Int) (ins outs : BL) : CallA := ⟨5, ins, qi9_ a0 a1 r, qja_ a0 a1 r, outs⟩
def qdd_ (x1_1 : W8) (x1_2 : Int) (st : Int × Int) : XSt := match st with
 | (x1_0, x1_3) => (sT 16 [(0, (Value.func (.yield 0) #[] #[])), (5, (wlV x1_1)), (6, (i6 x1_2)), (7, (i6 x1_3))], [], ⟨sB [(0, (some (rblk P 33 [false, true, false, true] .ready none [(4, (pN 2 0)), (5, (pN 3 0)), (8, (Value.func (.func 54) #[] #[(pN 4 0)]))] 1))), (1, (some (.marks true))), (2, (cB [(i6 x1_0)] 3)), (3, (cB [(Value.func (.func 35) #[] #[])] 58)), (4, (cB [(wlV x1_1)] 22))], 5, 0⟩)
def qca_ (x1_1 : W8) (x1_2 : Int) (r : Int) : Ex × XSt := match r with
 | z1_0 => (.exit 0, (sT 16 [], [], ⟨sB [(0, (some (rblk P 33 [false, true, false, true] .ready none [(4, (pN 2 0)), (5, (pN 3 0)), (8, (Value.func (.func 54) #[] #[(pN 4 0)]))] 1))), (1, (some (.marks true))), (2, (cB [(i6 z1_0)] 3)), (3, (cB [(Value.func (.func 35) #[] #[])] 58)), (4, (cB [(wlV x1_1)] 22))], 5, 0⟩))
abbrev qn6_ (rnd : Option Nat) (x1_1 : W8) (x1_2 : Int) (st : Int × Int) (c : Ex × XSt) : Prop := CG P rnd (fnN P 54) 5 (qw_ P 54 [false, false, true]) (qdd_ x1_1 x1_2 st) c
abbrev qhr_ (rd : Option Nat) (x1_1 : W8) (x1_2 : Int) (st : Int × Int) (r : Int) : Prop := CG P rd (fnN P 54) 5 (qw_ P 54 [false, true]) (qdd_ x1_1 x1_2 st) (qca_ x1_1 x1_2 r)
def q5_ (n : Nat) (x1_1 : W8) (x1_2 : Int) (st : Int × Int) : Option ((Int × Int) ⊕ (Int)) := match st with
 | (x1_0, x1_3) =>
  if x1_3 < x1_2 then
   if 0 ≤ x1_3 ∧ x1_3 < (((x1_1).l.length : Nat) : Int) then
    ((some (((x1_1).l).getD (x1_3).toNat (0, 0, 0, 0, 0, 0, nl0, 0)))).bind fun y1_3_ =>
    (qc2_ n x1_0 x1_1 (y1_3_.1) (y1_3_.2.1) (y1_3_.2.2.1) (y1_3_.2.2.2.1) (y1_3_.2.2.2.2.1) (y1_3_.2.2.2.2.2.1) (y1_3_.2.2.2.2.2.2.1) (y1_3_.2.2.2.2.2.2.2)).bind fun _ =>
    some (.inl ((maxB x1_0 (y1_3_.2.2.2.2.2.1)), (w64 (x1_3 + (1 : Int)))))
   else none
  else
   some (.inr x1_0)
def qfi_ (n : Nat) (x1_1 : W8) (x1_2 : Int) (st : Int × Int) : Option (Int) := iterM (q5_ n x1_1 x1_2) n st
theorem qhs_ (n : Nat) {rnd : Option Nat} (x1_1 : W8) (x1_2 : Int) (st : Int × Int) (o : (Int × Int) ⊕ (Int)) (h : q5_ n x1_1 x1_2 st = some o) : qn6_ rnd x1_1 x1_2 st (Sum.elim (fun s => (.normal, qdd_ x1_1 x1_2 s)) (fun r => qca_ x1_1 x1_2 r) o) := by
 obtain ⟨x1_0, x1_3⟩ := st
 unfold q5_ at h
 dsimp only at h
 by_cases hy1_1 : x1_3 < x1_2
 ·rw [if_pos hy1_1] at h
  obtain ⟨hy1_2, h⟩ := gd h
  obtain ⟨y1_3_, hy1_3, h⟩ := oB h
  obtain ⟨_, hy1_4, h⟩ := oB h
  obtain rfl := oI h
  exact runC2 hm (kW [0, 5, 6, 7] (iD 5) 5 0) (zz 1 (xdT hy1_1) <|
   zz 7 (xk1 (x1_1).num (x1_1).off (x1_1).cap hy1_2) <|
   zz 8 (lk2 hy1_3 (qba_ hy1_2)) <|
   yy 14 (.call (qm6_ x1_0 x1_1 (y1_3_.1) (y1_3_.2.1) (y1_3_.2.2.1) (y1_3_.2.2.2.1) (y1_3_.2.2.2.2.1) (y1_3_.2.2.2.2.2.1) (y1_3_.2.2.2.2.2.2.1) (y1_3_.2.2.2.2.2.2.2) () (iD 5) (iD 5))) <|
   ww (qk4_ n x1_0 x1_1 (y1_3_.1) (y1_3_.2.1) (y1_3_.2.2.1) (y1_3_.2.2.2.1) (y1_3_.2.2.2.2.1) (y1_3_.2.2.2.2.2.1) (y1_3_.2.2.2.2.2.2.1) (y1_3_.2.2.2.2.2.2.2) () hy1_4) <|
   ee) (by kernel_rfl)
 ·rw [if_neg hy1_1] at h
  obtain rfl := oI h
  exact runC2 hm (kW [] (iD 5) 5 0) (zz 1 (xdF hy1_1) <|
   ee) (by kernel_rfl)
theorem qlt_ (n : Nat) {rnd : Option Nat} (x1_1 : W8) (x1_2 : Int) (st : Int × Int) (r : Int) (h : qfi_ n x1_1 x1_2 st = some r) : qhr_ rnd x1_1 x1_2 st r :=
 CG.iter (b := qw_ P 54 [false, false, true]) (by kernel_rfl) (body := q5_ n x1_1 x1_2) (S := qdd_ x1_1 x1_2) (X := qca_ x1_1 x1_2)
  (fun s s' h => qhs_ n x1_1 x1_2 s (.inl s') h)
  (fun s r h => qhs_ n x1_1 x1_2 s (.inr r) h)
  (fun r => by intro hx; cases hx) h
def qd2_ (n : Nat) (a0 : Int) (a1 : W8) : Option (Int) :=
 (qfi_ n a1 (((a1).l.length : Nat) : Int) (a0, 0)).bind fun c1_ =>
 some c1_
theorem qm7_ (n : Nat) (a0 : Int) (a1 : W8) (r : Int) (h : qd2_ n a0 a1 = some r) : qpo_ a0 a1 r := by
 unfold qd2_ at h
 obtain ⟨c1_, hc1, h⟩ := oB h
 obtain rfl := oI h
 exact runF2 hm (kW [] (iD 5) 5 0) (ww (p := qhr_ none a1 (((a1).l.length : Nat) : Int) (a0, 0) c1_) (qlt_ n a1 (((a1).l.length : Nat) : Int) (a0, 0) c1_ hc1) <|
  ll 5 ⟨(kW [0, 5, 6, 7] (iD 5) 5 0), (qca_ a1 (((a1).l.length : Nat) : Int) c1_).1, (qca_ a1 (((a1).l.length : Nat) : Int) c1_).2⟩ <|
  ee) (by kernel_rfl)

def qky_ (a0 : W8) (a1 : Int) (r : Int) : Value := match r with
 | o0 => (i6 o0)
def qkz_ (a0 : W8) (a1 : Int) (r : Int) : AH := match r with
 | o0 => ⟨sB [(0, (cB [(wlV a0)] 22)), (1, (some (.marks false)))], 2, 0⟩
abbrev qri_ (a0 : W8) (a1 : Int) (r : Int) : Prop := Gv P (.func 33) [(Value.func (.func 54) #[] #[(pN 0 0)]), (i6 a1), (Value.func (.func 35) #[] #[])] ⟨sB [(0, (cB [(wlV a0)] 22))], 1, 1⟩ (qky_ a0 a1 r) (qkz_ a0 a1 r)
abbrev qrj_ (a0 : W8) (a1 : Int) (r : Int) (ins outs : BL) : CallA := ⟨1, ins, qky_ a0 a1 r, qkz_ a0 a1 r, outs⟩
def qfc_ (n : Nat) (a0 : W8) (a1 : Int) : Option (Int) :=
 (qd2_ n a1 a0).bind fun c1_ =>
 some c1_
theorem qo5_ (n : Nat) (a0 : W8) (a1 : Int) (r : Int) (h : qfc_ n a0 a1 = some r) : qri_ a0 a1 r := by
 unfold qfc_ at h
 obtain ⟨c1_, hc1, h⟩ := oB h
 obtain rfl := oI h
 exact runF2 hm (kW [6] [(0, 0, false), (1, 3, false)] 2 0) (yy 8 (.rng (qpp_ a1 a0 c1_ [(0, 4, false), (1, 3, false), (2, 1, false), (3, 2, false), (4, 0, false)] [(4, 0, false), (3, 1, false), (1, 2, false), (2, 3, false), (0, 4, false)]) [4, 5, 8]) <|
  ww (qm7_ n a1 a0 c1_ hc1) <|
  ee) (by kernel_rfl)

def qvx_ (a0 : W8) (r : Int) : Value := match r with
 | o0 => (i6 o0)
def qvy_ (a0 : W8) (r : Int) : AH := match r with
 | o0 => ⟨sB [], 0, 0⟩
abbrev G_reuseLookq1 (a0 : W8) (r : Int) : Prop := Gv P (.func 15) [(wlV a0)] ⟨sB [], 0, 0⟩ (qvx_ a0 r) (qvy_ a0 r)
abbrev qvz_ (a0 : W8) (r : Int) (ins outs : BL) : CallA := ⟨0, ins, qvx_ a0 r, qvy_ a0 r, outs⟩
def qfd_ (n : Nat) (a0 : W8) : Option (Int) :=
 (q6_ n a0).bind fun c1_ =>
 if c1_ = (0 : Int) then
  (qem_ n a0).bind fun _ =>
  (qfc_ n a0 0).bind fun c4_ =>
  some c4_
 else
  some 0
theorem qrk_ (n : Nat) (a0 : W8) (r : Int) (h : qfd_ n a0 = some r) : G_reuseLookq1 a0 r := by
 unfold qfd_ at h
 obtain ⟨c1_, hc1, h⟩ := oB h
 have k0 := fun {A L l} (k : PL A L l) => yy 5 (.call (qnl_ a0 c1_ [] [])) <|
  ww (qiw_ n a0 c1_ hc1) <|
  k
 by_cases hc2 : c1_ = (0 : Int)
 ·rw [if_pos hc2] at h
  obtain ⟨_, hc3, h⟩ := oB h
  obtain ⟨c4_, hc4, h⟩ := oB h
  obtain rfl := oI h
  exact runF2 hm (kW [2] [] 0 0) (k0 <|
   zz 6 (xnF hc2) <|
   yy 10 (.call (qqk_ a0 () [] [(0, 0, false)])) <|
   ww (qn5_ n a0 () hc3) <|
   yy 11 (.call (qrj_ a0 0 c4_ [(0, 0, false)] [(0, 0, false)])) <|
   ww (qo5_ n a0 0 c4_ hc4) <|
   ee) (by kernel_rfl)
 ·rw [if_neg hc2] at h
  obtain rfl := oI h
  exact runF2 hm (kW [2] [] 0 0) (k0 <|
   zz 6 (xnT hc2) <|
   ee) (by kernel_rfl)

def qlm_ (a0 : W8) (r : Int) : Value := match r with
 | o0 => (i6 o0)
def qln_ (a0 : W8) (r : Int) : AH := match r with
 | o0 => ⟨sB [], 0, 0⟩
abbrev qr7_ (a0 : W8) (r : Int) : Prop := Gv P (.func 16) [(wlV a0)] ⟨sB [], 0, 0⟩ (qlm_ a0 r) (qln_ a0 r)
abbrev qlo_ (a0 : W8) (r : Int) (ins outs : BL) : CallA := ⟨0, ins, qlm_ a0 r, qln_ a0 r, outs⟩
def qen_ (x1_0 : W8) (st : Int × Int) : XSt := match st with
 | (x1_1, x1_2) => (sT 24 [(0, (wlV x1_0)), (3, (i6 x1_1)), (4, (i6 x1_2))], [], ⟨sB [], 0, 0⟩)
def qc5_ (x1_0 : W8) (r : Int) : Ex × XSt := match r with
 | z1_0 => (.exit 0, (sT 24 [(3, (i6 z1_0))], [], ⟨sB [], 0, 0⟩))
abbrev qql_ (rnd : Option Nat) (x1_0 : W8) (st : Int × Int) (c : Ex × XSt) : Prop := CG P rnd (fnN P 16) 0 (qw_ P 16 [false, false, true, false, true, true]) (qen_ x1_0 st) c
abbrev qjp_ (rd : Option Nat) (x1_0 : W8) (st : Int × Int) (r : Int) : Prop := CG P rd (fnN P 16) 0 (qw_ P 16 [false, true, false, true, true]) (qen_ x1_0 st) (qc5_ x1_0 r)
def qu_ (n : Nat) (x1_0 : W8) (st : Int × Int) : Option ((Int × Int) ⊕ (Int)) := match st with
 | (x1_1, x1_2) =>
  if x1_2 < (((x1_0).l.length : Nat) : Int) then
   (qe_ n x1_0).bind fun y1_2_ =>
   if y1_2_ = (0 : Int) then
    if 0 ≤ x1_2 ∧ x1_2 < (((x1_0).l.length : Nat) : Int) then
     ((some (((x1_0).l).getD (x1_2).toNat (0, 0, 0, 0, 0, 0, nl0, 0)))).bind fun y1_5_ =>
     some (.inl ((maxB x1_1 (y1_5_.2.2.2.2.2.1)), (w64 (x1_2 + (1 : Int)))))
    else none
   else
    some (.inr x1_1)
  else
   some (.inr x1_1)
def qeo_ (n : Nat) (x1_0 : W8) (st : Int × Int) : Option (Int) := iterM (qu_ n x1_0) n st
theorem qjq_ (n : Nat) {rnd : Option Nat} (x1_0 : W8) (st : Int × Int) (o : (Int × Int) ⊕ (Int)) (h : qu_ n x1_0 st = some o) : qql_ rnd x1_0 st (Sum.elim (fun s => (.normal, qen_ x1_0 s)) (fun r => qc5_ x1_0 r) o) := by
 obtain ⟨x1_1, x1_2⟩ := st
 unfold qu_ at h
 dsimp only at h
 by_cases hy1_1 : x1_2 < (((x1_0).l.length : Nat) : Int)
 ·rw [if_pos hy1_1] at h
  obtain ⟨y1_2_, hy1_2, h⟩ := oB h
  have k0 := fun {A L l} (k : PL A L l) => zz 5 (xdT hy1_1) <|
   yy 8 (.call (qe5_ x1_0 y1_2_ [] [])) <|
   ww (qdk_ n x1_0 y1_2_ hy1_2) <|
   k
  by_cases hy1_3 : y1_2_ = (0 : Int)
  ·rw [if_pos hy1_3] at h
   obtain ⟨hy1_4, h⟩ := gd h
   obtain ⟨y1_5_, hy1_5, h⟩ := oB h
   obtain rfl := oI h
   exact runC2 hm (kW [0, 3, 4] [] 0 0) (k0 <|
    zz 9 (xeT hy1_3) <|
    zz 17 (xk1 (x1_0).num (x1_0).off (x1_0).cap hy1_4) <|
    zz 18 (fk28 (x1_0).num (Nat.add (x1_0).off ((x1_2).toNat * 8))) <|
    zz 19 (lk29 hy1_5 (qba_ hy1_4)) <|
    ee) (by kernel_rfl)
  ·rw [if_neg hy1_3] at h
   obtain rfl := oI h
   exact runC2 hm (kW [3] [] 0 0) (k0 <|
    zz 9 (xeF hy1_3) <|
    ee) (by kernel_rfl)
 ·rw [if_neg hy1_1] at h
  obtain rfl := oI h
  exact runC2 hm (kW [3] [] 0 0) (zz 5 (xdF hy1_1) <|
   ee) (by kernel_rfl)
theorem qn7_ (n : Nat) {rnd : Option Nat} (x1_0 : W8) (st : Int × Int) (r : Int) (h : qeo_ n x1_0 st = some r) : qjp_ rnd x1_0 st r :=
 CG.iter (b := qw_ P 16 [false, false, true, false, true, true]) (by kernel_rfl) (body := qu_ n x1_0) (S := qen_ x1_0) (X := qc5_ x1_0)
  (fun s s' h => qjq_ n x1_0 s (.inl s') h)
  (fun s r h => qjq_ n x1_0 s (.inr r) h)
  (fun r => by intro hx; cases hx) h
def q9_ (n : Nat) (a0 : W8) : Option (Int) :=
 (qeo_ n a0 (0, 0)).bind fun c1_ =>
 some c1_
theorem qjb_ (n : Nat) (a0 : W8) (r : Int) (h : q9_ n a0 = some r) : qr7_ a0 r := by
 unfold q9_ at h
 obtain ⟨c1_, hc1, h⟩ := oB h
 obtain rfl := oI h
 exact runF2 hm (kW [2] [] 0 0) (ww (p := qjp_ none a0 (0, 0) c1_) (qn7_ n a0 (0, 0) c1_ hc1) <|
  ll 8 ⟨(kW [0, 3, 4] [] 0 0), (qc5_ a0 c1_).1, (qc5_ a0 c1_).2⟩ <|
  ee) (by kernel_rfl)

def qis_ (g1 : Int) (g2 : Int) : List Value := [(wlV wA), (i6 g1), (i6 g2)]
def qo6_ (g1 : Int) (g2 : Int) (r : Unit) : Value := match r with
 | _ => (bO true)
def qo7_ (g1 : Int) (g2 : Int) (r : Unit) : AH := match r with
 | _ => ⟨sB [], 0, 0⟩
abbrev qo8_ (g1 : Int) (g2 : Int) (r : Unit) : Prop := Gv P (.func 3) (qis_ g1 g2) ⟨sB [], 0, 0⟩ (qo6_ g1 g2 r) (qo7_ g1 g2 r)
def qm8_ (x6_0 : W8) (x6_1 : W8) (x6_2 : Bool) (x6_3 : W8) (x6_4 : Bool) (st : Unit) : XSt := (sT 60 [(0, (wlV x6_0)), (7, (wlV x6_1)), (8, (bO x6_2)), (9, (wlV x6_3)), (10, (bO x6_4))], [], ⟨sB [], 0, 0⟩)
def qet_ (x6_0 : W8) (x6_1 : W8) (x6_2 : Bool) (x6_3 : W8) (x6_4 : Bool) (r : Unit) : Ex × XSt := match r with
 | _ => (.ret, (sT 60 [(6, (bO true))], [], ⟨sB [], 0, 0⟩))
abbrev qhb_ (rd : Option Nat) (x6_0 : W8) (x6_1 : W8) (x6_2 : Bool) (x6_3 : W8) (x6_4 : Bool) (st : Unit) (r : Unit) : Prop := CG P rd (fnN P 3) 0 (qw_ P 3 [true, true, true, true, true]) (qm8_ x6_0 x6_1 x6_2 x6_3 x6_4 st) (qet_ x6_0 x6_1 x6_2 x6_3 x6_4 r)
def qb5_ (n : Nat) (x6_0 : W8) (x6_1 : W8) (x6_2 : Bool) (x6_3 : W8) (x6_4 : Bool) (st : Unit) : Option (Unit) :=
 (q8_ n x6_1 x6_3).bind fun y6_1_ =>
 if y6_1_ = true then
  if x6_2 = true then
   if x6_4 = true then
    (qfh_ n x6_0).bind fun y6_5_ =>
    (qo_ n x6_0).bind fun y6_6_ =>
    (q2_ n y6_5_ y6_6_).bind fun y6_7_ =>
    if y6_7_ = true then
     (qdz_ n x6_0).bind fun y6_9_ =>
     (q4_ n x6_0).bind fun y6_10_ =>
     if y6_9_ = y6_10_ then
      (qfd_ n x6_0).bind fun y6_12_ =>
      (q9_ n x6_0).bind fun y6_13_ =>
      if y6_12_ = y6_13_ then
       some ()
      else
       none
     else
      none
    else
     none
   else
    none
  else
   if x6_4 = true then
    none
   else
    (qfh_ n x6_0).bind fun y6_5_ =>
    (qo_ n x6_0).bind fun y6_6_ =>
    (q2_ n y6_5_ y6_6_).bind fun y6_7_ =>
    if y6_7_ = true then
     (qdz_ n x6_0).bind fun y6_9_ =>
     (q4_ n x6_0).bind fun y6_10_ =>
     if y6_9_ = y6_10_ then
      (qfd_ n x6_0).bind fun y6_12_ =>
      (q9_ n x6_0).bind fun y6_13_ =>
      if y6_12_ = y6_13_ then
       some ()
      else
       none
     else
      none
    else
     none
 else
  none
theorem qk5_ (n : Nat) {rnd : Option Nat} (x6_0 : W8) (x6_1 : W8) (x6_2 : Bool) (x6_3 : W8) (x6_4 : Bool) (st : Unit) (r : Unit) (h : qb5_ n x6_0 x6_1 x6_2 x6_3 x6_4 st = some r) : qhb_ rnd x6_0 x6_1 x6_2 x6_3 x6_4 st r := by
 unfold qb5_ at h
 obtain ⟨y6_1_, hy6_1, h⟩ := oB h
 have k0 := fun {A L l} (k : PL A L l) => yy 3 (.call (qr5_ x6_1 x6_3 y6_1_ [] [])) <|
  ww (qpl_ n x6_1 x6_3 y6_1_ hy6_1) <|
  k
 by_cases hy6_2 : y6_1_ = true
 ·rw [if_pos hy6_2] at h
  have k2 := fun {A L l} (k : PL A L l) => zz 4 (xbT hy6_2) <|
   k
  by_cases hy6_3 : x6_2 = true
  ·rw [if_pos hy6_3] at h
   by_cases hy6_4 : x6_4 = true
   ·rw [if_pos hy6_4] at h
    obtain ⟨y6_5_, hy6_5, h⟩ := oB h
    obtain ⟨y6_6_, hy6_6, h⟩ := oB h
    obtain ⟨y6_7_, hy6_7, h⟩ := oB h
    have k3 := fun {A L l} (k : PL A L l) => yy 7 (vt) <|
     ww (p := (Value.bool (x6_2 == x6_4)) = (Value.bool true)) (vEqB hy6_3 hy6_4) <|
     yy 11 (.call (qyk_ x6_0 y6_5_ [] [])) <|
     ww (qsr_ n x6_0 y6_5_ hy6_5) <|
     yy 13 (.call (qh1_ x6_0 y6_6_ [] [])) <|
     ww (qgj_ n x6_0 y6_6_ hy6_6) <|
     yy 14 (.call (qkt_ y6_5_ y6_6_ y6_7_ [] [])) <|
     ww (qiq_ n y6_5_ y6_6_ y6_7_ hy6_7) <|
     k
    by_cases hy6_8 : y6_7_ = true
    ·rw [if_pos hy6_8] at h
     obtain ⟨y6_9_, hy6_9, h⟩ := oB h
     obtain ⟨y6_10_, hy6_10, h⟩ := oB h
     have k11 := fun {A L l} (k : PL A L l) => zz 16 (xbT hy6_8) <|
      yy 18 (.call (quf_ x6_0 y6_9_ [] [])) <|
      ww (qp5_ n x6_0 y6_9_ hy6_9) <|
      yy 20 (.call (qkx_ x6_0 y6_10_ [] [])) <|
      ww (qir_ n x6_0 y6_10_ hy6_10) <|
      k
     by_cases hy6_11 : y6_9_ = y6_10_
     ·rw [if_pos hy6_11] at h
      obtain ⟨y6_12_, hy6_12, h⟩ := oB h
      obtain ⟨y6_13_, hy6_13, h⟩ := oB h
      have k16 := fun {A L l} (k : PL A L l) => zz 21 (xeT hy6_11) <|
       yy 25 (.call (qvz_ x6_0 y6_12_ [] [])) <|
       ww (qrk_ n x6_0 y6_12_ hy6_12) <|
       yy 27 (.call (qlo_ x6_0 y6_13_ [] [])) <|
       ww (qjb_ n x6_0 y6_13_ hy6_13) <|
       k
      by_cases hy6_14 : y6_12_ = y6_13_
      ·rw [if_pos hy6_14] at h
       obtain rfl := oI h
       exact runC2 hm (kW [6] [] 0 0) (k0 <|
        k2 <|
        k3 <|
        k11 <|
        k16 <|
        zz 28 (xeT hy6_14) <|
        ee) (by kernel_rfl)
      ·rw [if_neg hy6_14] at h
       cases h
     ·rw [if_neg hy6_11] at h
      cases h
    ·rw [if_neg hy6_8] at h
     cases h
   ·rw [if_neg hy6_4] at h
    cases h
  ·rw [if_neg hy6_3] at h
   by_cases hy6_4 : x6_4 = true
   ·rw [if_pos hy6_4] at h
    cases h
   ·rw [if_neg hy6_4] at h
    obtain ⟨y6_5_, hy6_5, h⟩ := oB h
    obtain ⟨y6_6_, hy6_6, h⟩ := oB h
    obtain ⟨y6_7_, hy6_7, h⟩ := oB h
    have k3 := fun {A L l} (k : PL A L l) => yy 7 (vt) <|
     ww (p := (Value.bool (x6_2 == x6_4)) = (Value.bool true)) (vEqB (Bool.eq_false_iff.2 hy6_3) (Bool.eq_false_iff.2 hy6_4)) <|
     yy 11 (.call (qyk_ x6_0 y6_5_ [] [])) <|
     ww (qsr_ n x6_0 y6_5_ hy6_5) <|
     yy 13 (.call (qh1_ x6_0 y6_6_ [] [])) <|
     ww (qgj_ n x6_0 y6_6_ hy6_6) <|
     yy 14 (.call (qkt_ y6_5_ y6_6_ y6_7_ [] [])) <|
     ww (qiq_ n y6_5_ y6_6_ y6_7_ hy6_7) <|
     k
    by_cases hy6_8 : y6_7_ = true
    ·rw [if_pos hy6_8] at h
     obtain ⟨y6_9_, hy6_9, h⟩ := oB h
     obtain ⟨y6_10_, hy6_10, h⟩ := oB h
     have k11 := fun {A L l} (k : PL A L l) => zz 16 (xbT hy6_8) <|
      yy 18 (.call (quf_ x6_0 y6_9_ [] [])) <|
      ww (qp5_ n x6_0 y6_9_ hy6_9) <|
      yy 20 (.call (qkx_ x6_0 y6_10_ [] [])) <|
      ww (qir_ n x6_0 y6_10_ hy6_10) <|
      k
     by_cases hy6_11 : y6_9_ = y6_10_
     ·rw [if_pos hy6_11] at h
      obtain ⟨y6_12_, hy6_12, h⟩ := oB h
      obtain ⟨y6_13_, hy6_13, h⟩ := oB h
      have k16 := fun {A L l} (k : PL A L l) => zz 21 (xeT hy6_11) <|
       yy 25 (.call (qvz_ x6_0 y6_12_ [] [])) <|
       ww (qrk_ n x6_0 y6_12_ hy6_12) <|
       yy 27 (.call (qlo_ x6_0 y6_13_ [] [])) <|
       ww (qjb_ n x6_0 y6_13_ hy6_13) <|
       k
      by_cases hy6_14 : y6_12_ = y6_13_
      ·rw [if_pos hy6_14] at h
       obtain rfl := oI h
       exact runC2 hm (kW [6] [] 0 0) (k0 <|
        k2 <|
        k3 <|
        k11 <|
        k16 <|
        zz 28 (xeT hy6_14) <|
        ee) (by kernel_rfl)
      ·rw [if_neg hy6_14] at h
       cases h
     ·rw [if_neg hy6_11] at h
      cases h
    ·rw [if_neg hy6_8] at h
     cases h
 ·rw [if_neg hy6_2] at h
  cases h
def qm9_ (x3_0 : W8) (x3_1 : Int) (x3_2 : Int) (x3_3 : Bool) (st : Unit) : XSt := (sT 60 [(0, (wlV x3_0)), (1, (i6 x3_1)), (2, (i6 x3_2)), (15, (bO x3_3))], [], ⟨sB [], 0, 0⟩)
def qm_ (x3_0 : W8) (x3_1 : Int) (x3_2 : Int) (x3_3 : Bool) (r : (Unit) ⊕ (Unit)) : Ex × XSt := match r with
 | .inl _ => (.ret, (sT 60 [(6, (bO true))], [], ⟨sB [], 0, 0⟩))
 | .inr _ => (.normal, (sT 60 [(0, (wlV x3_0)), (1, (i6 x3_1)), (2, (i6 x3_2))], [], ⟨sB [], 0, 0⟩))
abbrev qb6_ (rd : Option Nat) (x3_0 : W8) (x3_1 : Int) (x3_2 : Int) (x3_3 : Bool) (st : Unit) (r : (Unit) ⊕ (Unit)) : Prop := CG P rd (fnN P 3) 0 (qw_ P 3 [true, false, true, true]) (qm9_ x3_0 x3_1 x3_2 x3_3 st) (qm_ x3_0 x3_1 x3_2 x3_3 r)
def qbf_ (n : Nat) (x3_0 : W8) (x3_1 : Int) (x3_2 : Int) (x3_3 : Bool) (st : Unit) : Option ((Unit) ⊕ (Unit)) :=
 if x3_3 = true then
  some (.inl ())
 else
  some (.inr ())
theorem qce_ (n : Nat) {rnd : Option Nat} (x3_0 : W8) (x3_1 : Int) (x3_2 : Int) (x3_3 : Bool) (st : Unit) (r : (Unit) ⊕ (Unit)) (h : qbf_ n x3_0 x3_1 x3_2 x3_3 st = some r) : qb6_ rnd x3_0 x3_1 x3_2 x3_3 st r := by
 unfold qbf_ at h
 by_cases hy3_1 : x3_3 = true
 ·rw [if_pos hy3_1] at h
  obtain rfl := oI h
  exact runC2 hm (kW [6] [] 0 0) (zz 0 (xbT hy3_1) <|
   ee) (by kernel_rfl)
 ·rw [if_neg hy3_1] at h
  obtain rfl := oI h
  exact runC2 hm (kW [0, 1, 2] [] 0 0) (zz 0 (xbF hy3_1) <|
   ee) (by kernel_rfl)
def qna_ (x5_0 : W8) (x5_1 : Int) (x5_2 : Int) (x5_3 : W8) (x5_4 : Bool) (st : Unit) : XSt := (sT 60 [(0, (wlV x5_0)), (1, (i6 x5_1)), (2, (i6 x5_2)), (7, (wlV x5_3)), (8, (bO x5_4))], [], ⟨sB [], 0, 0⟩)
def qeu_ (x5_0 : W8) (x5_1 : Int) (x5_2 : Int) (x5_3 : W8) (x5_4 : Bool) (r : Unit) : Ex × XSt := match r with
 | _ => (.ret, (sT 60 [(6, (bO true))], [], ⟨sB [], 0, 0⟩))
abbrev qhc_ (rd : Option Nat) (x5_0 : W8) (x5_1 : Int) (x5_2 : Int) (x5_3 : W8) (x5_4 : Bool) (st : Unit) (r : Unit) : Prop := CG P rd (fnN P 3) 0 (qw_ P 3 [true, true, true, true]) (qna_ x5_0 x5_1 x5_2 x5_3 x5_4 st) (qeu_ x5_0 x5_1 x5_2 x5_3 x5_4 r)
def qc3_ (n : Nat) (x5_0 : W8) (x5_1 : Int) (x5_2 : Int) (x5_3 : W8) (x5_4 : Bool) (st : Unit) : Option (Unit) :=
 (qbr_ n x5_0 x5_1 x5_2).bind fun t => match t with
 | (y5_1_0, y5_1_1) =>
  (qb5_ n x5_0 x5_3 x5_4 y5_1_0 y5_1_1 ()).bind fun _ =>
  some ()
theorem qk6_ (n : Nat) {rnd : Option Nat} (x5_0 : W8) (x5_1 : Int) (x5_2 : Int) (x5_3 : W8) (x5_4 : Bool) (st : Unit) (r : Unit) (h : qc3_ n x5_0 x5_1 x5_2 x5_3 x5_4 st = some r) : qhc_ rnd x5_0 x5_1 x5_2 x5_3 x5_4 st r := by
 unfold qc3_ at h
 obtain ⟨⟨y5_1_0, y5_1_1⟩, hy5_1, h⟩ := oB h
 dsimp only at h
 obtain ⟨_, hy5_2, h⟩ := oB h
 obtain rfl := oI h
 exact runC2 hm (kW [6] [] 0 0) (yy 4 (.call (qr3_ x5_0 x5_1 x5_2 (y5_1_0, y5_1_1) [] [])) <|
  ww (qpk_ n x5_0 x5_1 x5_2 (y5_1_0, y5_1_1) hy5_1) <|
  ww (p := qhb_ rnd x5_0 x5_3 x5_4 y5_1_0 y5_1_1 () ()) (qk5_ n x5_0 x5_3 x5_4 y5_1_0 y5_1_1 () () hy5_2) <|
  ll 10 ⟨(kW [0, 7, 8, 9, 10] [] 0 0), (qet_ x5_0 x5_3 x5_4 y5_1_0 y5_1_1 ()).1, (qet_ x5_0 x5_3 x5_4 y5_1_0 y5_1_1 ()).2⟩ <|
  ee) (by kernel_rfl)
def qnb_ (x1_0 : W8) (x1_1 : Int) (x1_2 : Int) (st : Unit) : XSt := (sT 60 [(0, (wlV x1_0)), (1, (i6 x1_1)), (2, (i6 x1_2)), (12, (bO false))], [], ⟨sB [], 0, 0⟩)
def qev_ (x1_0 : W8) (x1_1 : Int) (x1_2 : Int) (r : Unit) : Ex × XSt := match r with
 | _ => (.normal, (sT 60 [(0, (wlV x1_0)), (1, (i6 x1_1)), (2, (i6 x1_2))], [], ⟨sB [], 0, 0⟩))
abbrev qhd_ (rd : Option Nat) (x1_0 : W8) (x1_1 : Int) (x1_2 : Int) (st : Unit) (r : Unit) : Prop := CG P rd (fnN P 3) 0 (qw_ P 3 [true, false, true]) (qnb_ x1_0 x1_1 x1_2 st) (qev_ x1_0 x1_1 x1_2 r)
def qew_ (n : Nat) (x1_0 : W8) (x1_1 : Int) (x1_2 : Int) (st : Unit) : Option (Unit) :=
 some ()
theorem qk7_ (n : Nat) {rnd : Option Nat} (x1_0 : W8) (x1_1 : Int) (x1_2 : Int) (st : Unit) (r : Unit) (h : qew_ n x1_0 x1_1 x1_2 st = some r) : qhd_ rnd x1_0 x1_1 x1_2 st r := by
 unfold qew_ at h
 obtain rfl := oI h
 exact runC2 hm (kW [0, 1, 2] [] 0 0) (ee) (by kernel_rfl)
def qnc_ (x4_0 : W8) (x4_1 : Int) (x4_2 : Int) (st : Unit) : XSt := (sT 60 [(0, (wlV x4_0)), (1, (i6 x4_1)), (2, (i6 x4_2))], [], ⟨sB [], 0, 0⟩)
def qb7_ (x4_0 : W8) (x4_1 : Int) (x4_2 : Int) (r : Unit) : Ex × XSt := match r with
 | _ => (.ret, (sT 60 [(6, (bO true))], [], ⟨sB [], 0, 0⟩))
abbrev qex_ (rd : Option Nat) (x4_0 : W8) (x4_1 : Int) (x4_2 : Int) (st : Unit) (r : Unit) : Prop := CG P rd (fnN P 3) 0 (qw_ P 3 [true, true, true]) (qnc_ x4_0 x4_1 x4_2 st) (qb7_ x4_0 x4_1 x4_2 r)
def qbg_ (n : Nat) (x4_0 : W8) (x4_1 : Int) (x4_2 : Int) (st : Unit) : Option (Unit) :=
 (qb9_ n x4_0).bind fun y4_1_ =>
 (qfs_ n y4_1_ x4_1 x4_2).bind fun t => match t with
 | (y4_2_0, y4_2_1) =>
  (qc3_ n x4_0 x4_1 x4_2 y4_2_0 y4_2_1 ()).bind fun _ =>
  some ()
theorem qgd_ (n : Nat) {rnd : Option Nat} (x4_0 : W8) (x4_1 : Int) (x4_2 : Int) (st : Unit) (r : Unit) (h : qbg_ n x4_0 x4_1 x4_2 st = some r) : qex_ rnd x4_0 x4_1 x4_2 st r := by
 unfold qbg_ at h
 obtain ⟨y4_1_, hy4_1, h⟩ := oB h
 obtain ⟨⟨y4_2_0, y4_2_1⟩, hy4_2, h⟩ := oB h
 dsimp only at h
 obtain ⟨_, hy4_3, h⟩ := oB h
 obtain rfl := oI h
 exact runC2 hm (kW [6] [] 0 0) (yy 2 (.call (qp8_ x4_0 y4_1_ [] [])) <|
  ww (qnw_ n x4_0 y4_1_ hy4_1) <|
  yy 5 (.call (C_reuseTakeq1 y4_1_ x4_1 x4_2 (y4_2_0, y4_2_1) [] [])) <|
  ww (qye_ n y4_1_ x4_1 x4_2 (y4_2_0, y4_2_1) hy4_2) <|
  ww (p := qhc_ rnd x4_0 x4_1 x4_2 y4_2_0 y4_2_1 () ()) (qk6_ n x4_0 x4_1 x4_2 y4_2_0 y4_2_1 () () hy4_3) <|
  ll 11 ⟨(kW [0, 1, 2, 7, 8] [] 0 0), (qeu_ x4_0 x4_1 x4_2 y4_2_0 y4_2_1 ()).1, (qeu_ x4_0 x4_1 x4_2 y4_2_0 y4_2_1 ()).2⟩ <|
  ee) (by kernel_rfl)
def qnd_ (x2_0 : W8) (x2_1 : Int) (x2_2 : Int) (st : Unit) : XSt := (sT 60 [(0, (wlV x2_0)), (1, (i6 x2_1)), (2, (i6 x2_2))], [], ⟨sB [], 0, 0⟩)
def qey_ (x2_0 : W8) (x2_1 : Int) (x2_2 : Int) (r : Unit) : Ex × XSt := match r with
 | _ => (.ret, (sT 60 [(6, (bO true))], [], ⟨sB [], 0, 0⟩))
abbrev qhe_ (rd : Option Nat) (x2_0 : W8) (x2_1 : Int) (x2_2 : Int) (st : Unit) (r : Unit) : Prop := CG P rd (fnN P 3) 0 (qw_ P 3 [true, true]) (qnd_ x2_0 x2_1 x2_2 st) (qey_ x2_0 x2_1 x2_2 r)
def qbh_ (n : Nat) (x2_0 : W8) (x2_1 : Int) (x2_2 : Int) (st : Unit) : Option (Unit) :=
 (qbx_ n x2_0 120).bind fun y2_1_ =>
 if y2_1_ = true then
  match qbf_ n x2_0 x2_1 x2_2 false () with
  | none => none
  | some (.inl _) =>
   some ()
  | some (.inr _) =>
   (qbg_ n x2_0 x2_1 x2_2 ()).bind fun _ =>
   some ()
 else
  match qbf_ n x2_0 x2_1 x2_2 true () with
  | none => none
  | some (.inl _) =>
   some ()
  | some (.inr _) =>
   (qbg_ n x2_0 x2_1 x2_2 ()).bind fun _ =>
   some ()
theorem qk8_ (n : Nat) {rnd : Option Nat} (x2_0 : W8) (x2_1 : Int) (x2_2 : Int) (st : Unit) (r : Unit) (h : qbh_ n x2_0 x2_1 x2_2 st = some r) : qhe_ rnd x2_0 x2_1 x2_2 st r := by
 unfold qbh_ at h
 obtain ⟨y2_1_, hy2_1, h⟩ := oB h
 have k0 := fun {A L l} (k : PL A L l) => yy 3 (.call (qog_ x2_0 120 y2_1_ [] [])) <|
  ww (qme_ n x2_0 120 y2_1_ hy2_1) <|
  k
 by_cases hy2_2 : y2_1_ = true
 ·rw [if_pos hy2_2] at h
  have k2 := fun {A L l} (k : PL A L l) => yy 4 (vf) <|
   ww (p := (Value.bool (!y2_1_)) = (Value.bool false)) (vBn hy2_2) <|
   k
  rcases hy2_3 : qbf_ n x2_0 x2_1 x2_2 false () with _ | (⟨⟩ | ⟨⟩)
  ·rw [hy2_3] at h; cases h
  ·rw [hy2_3] at h
   dsimp only at h
   obtain rfl := oI h
   exact runC2 hm (kW [6] [] 0 0) (k0 <|
    k2 <|
    ww (p := qb6_ rnd x2_0 x2_1 x2_2 false () (.inl ())) (qce_ n x2_0 x2_1 x2_2 false () (.inl ()) hy2_3) <|
    ll 5 ⟨(kW [0, 1, 2, 15] [] 0 0), (qm_ x2_0 x2_1 x2_2 false (.inl ())).1, (qm_ x2_0 x2_1 x2_2 false (.inl ())).2⟩ <|
    ee) (by kernel_rfl)
  ·rw [hy2_3] at h
   dsimp only at h
   obtain ⟨_, hy2_4, h⟩ := oB h
   obtain rfl := oI h
   exact runC2 hm (kW [6] [] 0 0) (k0 <|
    k2 <|
    ww (p := qb6_ rnd x2_0 x2_1 x2_2 false () (.inr ())) (qce_ n x2_0 x2_1 x2_2 false () (.inr ()) hy2_3) <|
    ll 5 ⟨(kW [0, 1, 2, 15] [] 0 0), (qm_ x2_0 x2_1 x2_2 false (.inr ())).1, (qm_ x2_0 x2_1 x2_2 false (.inr ())).2⟩ <|
    ww (p := qex_ rnd x2_0 x2_1 x2_2 () ()) (qgd_ n x2_0 x2_1 x2_2 () () hy2_4) <|
    ll 6 ⟨(kW [0, 1, 2] [] 0 0), (qb7_ x2_0 x2_1 x2_2 ()).1, (qb7_ x2_0 x2_1 x2_2 ()).2⟩ <|
    ee) (by kernel_rfl)
 ·rw [if_neg hy2_2] at h
  have k2 := fun {A L l} (k : PL A L l) => yy 4 (vt) <|
   ww (p := (Value.bool (!y2_1_)) = (Value.bool true)) (vBn (Bool.eq_false_iff.2 hy2_2)) <|
   k
  rcases hy2_3 : qbf_ n x2_0 x2_1 x2_2 true () with _ | (⟨⟩ | ⟨⟩)
  ·rw [hy2_3] at h; cases h
  ·rw [hy2_3] at h
   dsimp only at h
   obtain rfl := oI h
   exact runC2 hm (kW [6] [] 0 0) (k0 <|
    k2 <|
    ww (p := qb6_ rnd x2_0 x2_1 x2_2 true () (.inl ())) (qce_ n x2_0 x2_1 x2_2 true () (.inl ()) hy2_3) <|
    ll 5 ⟨(kW [0, 1, 2, 15] [] 0 0), (qm_ x2_0 x2_1 x2_2 true (.inl ())).1, (qm_ x2_0 x2_1 x2_2 true (.inl ())).2⟩ <|
    ee) (by kernel_rfl)
  ·rw [hy2_3] at h
   dsimp only at h
   obtain ⟨_, hy2_4, h⟩ := oB h
   obtain rfl := oI h
   exact runC2 hm (kW [6] [] 0 0) (k0 <|
    k2 <|
    ww (p := qb6_ rnd x2_0 x2_1 x2_2 true () (.inr ())) (qce_ n x2_0 x2_1 x2_2 true () (.inr ()) hy2_3) <|
    ll 5 ⟨(kW [0, 1, 2, 15] [] 0 0), (qm_ x2_0 x2_1 x2_2 true (.inr ())).1, (qm_ x2_0 x2_1 x2_2 true (.inr ())).2⟩ <|
    ww (p := qex_ rnd x2_0 x2_1 x2_2 () ()) (qgd_ n x2_0 x2_1 x2_2 () () hy2_4) <|
    ll 6 ⟨(kW [0, 1, 2] [] 0 0), (qb7_ x2_0 x2_1 x2_2 ()).1, (qb7_ x2_0 x2_1 x2_2 ()).2⟩ <|
    ee) (by kernel_rfl)
def qfp_ (n : Nat) (g1 : Int) (g2 : Int) : Option (Unit) :=
 (qmd_ n).bind fun _ =>
 (qew_ n wA g1 g2 ()).bind fun _ =>
 (qbh_ n wA g1 g2 ()).bind fun _ =>
 some ()
theorem qm0_ (n : Nat) (g1 : Int) (g2 : Int) (r : Unit) (h : qfp_ n g1 g2 = some r) : qo8_ g1 g2 r := by
 unfold qfp_ at h
 obtain ⟨_, hc1, h⟩ := oB h
 obtain ⟨_, hc2, h⟩ := oB h
 obtain ⟨_, hc3, h⟩ := oB h
 obtain rfl := oI h
 exact runF2 hm (kW [6] [] 0 0) (yy 4 (.call ⟨0, [], (Value.bool true), Ax.h0, []⟩) <|
  ww (qp6_ n  () hc1) <|
  ww (p := qhd_ none wA g1 g2 () ()) (qk7_ n wA g1 g2 () () hc2) <|
  ll 6 ⟨(kW [0, 1, 2, 12] [] 0 0), (qev_ wA g1 g2 ()).1, (qev_ wA g1 g2 ()).2⟩ <|
  ww (p := qhe_ none wA g1 g2 () ()) (qk8_ n wA g1 g2 () () hc3) <|
  ll 7 ⟨(kW [0, 1, 2] [] 0 0), (qey_ wA g1 g2 ()).1, (qey_ wA g1 g2 ()).2⟩ <|
  ee) (by kernel_rfl)

end Go.Proofs.Ytbligeacgkhljaa.rca21
