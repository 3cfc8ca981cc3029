/-
  What functions do, told by pure functions. No condition.
-/
import Derived.Test.YtbligeacgkhljaaRcaATold
set_option linter.unusedSimpArgs false
set_option linter.unusedVariables false
set_option linter.unusedSectionVars false
set_option linter.unnecessarySimpa false
set_option maxRecDepth 100000
noncomputable section
namespace Go.Proofs.Ytbligeacgkhljaa.rca21
open Go Go.Proofs.Ytbligeacgkhljaa Ax
variable [Args]
def qsh_ (a0 : W8) (a1 : Int) (a2 : Int) (a3 : Int) (a4 : Bool) (a5 : W8) (a6 : Int) (r : (Int) ⊕ (Unit)) : Value := match r with
 | .inl o0 => (Value.tuple #[])
 | .inr _ => (Value.tuple #[])
def qsi_ (a0 : W8) (a1 : Int) (a2 : Int) (a3 : Int) (a4 : Bool) (a5 : W8) (a6 : Int) (r : (Int) ⊕ (Unit)) : AH := match r with
 | .inl o0 => ⟨sB [(0, (some (rblk P 18 [false, true, false, true, true] .done (some .ret) [(3, (pN 2 0)), (4, (pN 3 0)), (5, (pN 4 0)), (6, (pN 5 0)), (7, (pN 6 0)), (14, (Value.func (.func 56) #[] #[(pN 7 0), (pN 8 0)]))] 1))), (1, (some (.marks true))), (2, (cB [(wlV a0)] 22)), (3, (cB [(i6 a1)] 3)), (4, (cB [(i6 a2)] 3)), (5, (cB [(i6 o0)] 3)), (6, (cB [(bO true)] 4)), (7, (cB [(wlV a5)] 22)), (8, (cB [(i6 a6)] 3))], 9, 0⟩
 | .inr _ => ⟨sB [(0, (some (rblk P 18 [false, true, false, true, true] .ready none [(3, (pN 2 0)), (4, (pN 3 0)), (5, (pN 4 0)), (6, (pN 5 0)), (7, (pN 6 0)), (14, (Value.func (.func 56) #[] #[(pN 7 0), (pN 8 0)]))] 1))), (1, (some (.marks true))), (2, (cB [(wlV a0)] 22)), (3, (cB [(i6 a1)] 3)), (4, (cB [(i6 a2)] 3)), (5, (cB [(i6 a3)] 3)), (6, (cB [(bO a4)] 4)), (7, (cB [(wlV a5)] 22)), (8, (cB [(i6 a6)] 3))], 9, 0⟩
abbrev qyr_ (a0 : W8) (a1 : Int) (a2 : Int) (a3 : Int) (a4 : Bool) (a5 : W8) (a6 : Int) (r : (Int) ⊕ (Unit)) : Prop := Gv P (.func 56) [(Value.func (.yield 0) #[] #[]), (pN 7 0), (pN 8 0)] ⟨sB [(0, (some (rblk P 18 [false, true, false, true, true] .ready none [(3, (pN 2 0)), (4, (pN 3 0)), (5, (pN 4 0)), (6, (pN 5 0)), (7, (pN 6 0)), (14, (Value.func (.func 56) #[] #[(pN 7 0), (pN 8 0)]))] 1))), (1, (some (.marks true))), (2, (cB [(wlV a0)] 22)), (3, (cB [(i6 a1)] 3)), (4, (cB [(i6 a2)] 3)), (5, (cB [(i6 a3)] 3)), (6, (cB [(bO a4)] 4)), (7, (cB [(wlV a5)] 22)), (8, (cB [(i6 a6)] 3))], 9, 9⟩ (qsh_ a0 a1 a2 a3 a4 a5 a6 r) (qsi_ a0 a1 a2 a3 a4 a5 a6 r)
abbrev qsj_ (a0 : W8) (a1 : Int) (a2 : Int) (a3 : Int) (a4 : Bool) (a5 : W8) (a6 : Int) (r : (Int) ⊕ (Unit)) (ins outs : BL) : CallA := ⟨9, ins, qsh_ a0 a1 a2 a3 a4 a5 a6 r, qsi_ a0 a1 a2 a3 a4 a5 a6 r, outs⟩
def qhi_ (n : Nat) (a0 : W8) (a1 : Int) (a2 : Int) (a3 : Int) (a4 : Bool) (a5 : W8) (a6 : Int) : Option ((Int) ⊕ (Unit)) :=
 match qcv_ n a5 a6 a0 a1 a2 a3 a4 a5 a6 with
 | none => none
 | some (.inl c1_) =>
  some (.inl c1_)
 | some (.inr _) =>
  some (.inr ())
theorem qoo_ (n : Nat) (a0 : W8) (a1 : Int) (a2 : Int) (a3 : Int) (a4 : Bool) (a5 : W8) (a6 : Int) (r : (Int) ⊕ (Unit)) (h : qhi_ n a0 a1 a2 a3 a4 a5 a6 = some r) : qyr_ a0 a1 a2 a3 a4 a5 a6 r := by
 unfold qhi_ at h
 rcases hc1 : qcv_ n a5 a6 a0 a1 a2 a3 a4 a5 a6 with _ | (c1_ | ⟨⟩)
 ·rw [hc1] at h; cases h
 ·rw [hc1] at h
  dsimp only at h
  obtain rfl := oI h
  exact runF2 hm (kW [] (iD 9) 9 0) (yy 3 (.call (qnm_ a5 a6 a0 a1 a2 a3 a4 a5 a6 (.inl c1_) (iD 9) (iD 9))) <|
   ww (qmf_ n a5 a6 a0 a1 a2 a3 a4 a5 a6 (.inl c1_) hc1) <|
   ee) (by kernel_rfl)
 ·rw [hc1] at h
  dsimp only at h
  obtain rfl := oI h
  exact runF2 hm (kW [] (iD 9) 9 0) (yy 3 (.call (qnm_ a5 a6 a0 a1 a2 a3 a4 a5 a6 (.inr ()) (iD 9) (iD 9))) <|
   ww (qmf_ n a5 a6 a0 a1 a2 a3 a4 a5 a6 (.inr ()) hc1) <|
   ee) (by kernel_rfl)

def qx6_ (a0 : W8) (a1 : Int) (a2 : Int) (r : (Int × Bool) ⊕ (Unit)) : Value := match r with
 | .inl (o0, o1) => (Value.tuple #[(i6 o0), (bO o1)])
 | .inr _ => (Value.tuple #[(i6 (0 : Int)), (bO false)])
def qx7_ (a0 : W8) (a1 : Int) (a2 : Int) (r : (Int × Bool) ⊕ (Unit)) : AH := match r with
 | .inl (o0, o1) => ⟨sB [(0, (some (.marks false))), (1, (cB [(i6 o0)] 3)), (2, (cB [(bO o1)] 4))], 3, 0⟩
 | .inr _ => ⟨sB [(0, (cB [(i6 (0 : Int))] 3)), (1, (cB [(bO false)] 4))], 2, 0⟩
abbrev G_treeFindq1 (a0 : W8) (a1 : Int) (a2 : Int) (r : (Int × Bool) ⊕ (Unit)) : Prop := Gv P (.func 18) [(wlV a0), (i6 a1), (i6 a2)] ⟨sB [], 0, 0⟩ (qx6_ a0 a1 a2 r) (qx7_ a0 a1 a2 r)
abbrev qx8_ (a0 : W8) (a1 : Int) (a2 : Int) (r : (Int × Bool) ⊕ (Unit)) (ins outs : BL) : CallA := ⟨0, ins, qx6_ a0 a1 a2 r, qx7_ a0 a1 a2 r, outs⟩
def qgp_ (n : Nat) (a0 : W8) (a1 : Int) (a2 : Int) : Option ((Int × Bool) ⊕ (Unit)) :=
 (q6_ n a0).bind fun c1_ =>
 if c1_ = (0 : Int) then
  (qg0_ n a0 0).bind fun _ =>
  match qhi_ n a0 a1 a2 0 false a0 0 with
  | none => none
  | some (.inl c4_) =>
   some (.inl (c4_, true))
  | some (.inr _) =>
   some (.inl (0, false))
 else
  some (.inr ())
theorem qsk_ (n : Nat) (a0 : W8) (a1 : Int) (a2 : Int) (r : (Int × Bool) ⊕ (Unit)) (h : qgp_ n a0 a1 a2 = some r) : G_treeFindq1 a0 a1 a2 r := by
 unfold qgp_ at h
 obtain ⟨c1_, hc1, h⟩ := oB h
 have k0 := fun {A L l} (k : PL A L l) => yy 9 (.call (qnl_ a0 c1_ [] [])) <|
  ww (qiw_ n a0 c1_ hc1) <|
  k
 by_cases hc2 : c1_ = (0 : Int)
 ·rw [if_pos hc2] at h
  obtain ⟨_, hc3, h⟩ := oB h
  have k2 := fun {A L l} (k : PL A L l) => zz 10 (xnF hc2) <|
   yy 15 (.call (qt2_ a0 0 () [] [(5, 0, false), (6, 1, false)])) <|
   ww (qpv_ n a0 0 () hc3) <|
   k
  rcases hc4 : qhi_ n a0 a1 a2 0 false a0 0 with _ | (c4_ | ⟨⟩)
  ·rw [hc4] at h; cases h
  ·rw [hc4] at h
   dsimp only at h
   obtain rfl := oI h
   exact runF2 hm (kW [6, 7] [(0, 7, false), (1, 3, false), (2, 4, false)] 3 0) (k0 <|
    k2 <|
    yy 17 (.rng (qsj_ a0 a1 a2 0 false a0 0 (.inl c4_) [(0, 8, false), (1, 7, false), (2, 0, false), (3, 1, false), (4, 2, false), (5, 3, false), (6, 4, false), (7, 5, false), (8, 6, false)] [(8, 0, false), (7, 1, false), (0, 2, false), (1, 3, false), (2, 4, false), (3, 5, false), (4, 6, false), (5, 7, false), (6, 8, false)]) [3, 4, 5, 6, 7, 14]) <|
    ww (qoo_ n a0 a1 a2 0 false a0 0 (.inl c4_) hc4) <|
    ee) (by kernel_rfl)
  ·rw [hc4] at h
   dsimp only at h
   obtain rfl := oI h
   exact runF2 hm (kW [6, 7] [(0, 7, false), (1, 3, false), (2, 4, false)] 3 0) (k0 <|
    k2 <|
    yy 17 (.rng (qsj_ a0 a1 a2 0 false a0 0 (.inr ()) [(0, 8, false), (1, 7, false), (2, 0, false), (3, 1, false), (4, 2, false), (5, 3, false), (6, 4, false), (7, 5, false), (8, 6, false)] [(8, 0, false), (7, 1, false), (0, 2, false), (1, 3, false), (2, 4, false), (3, 5, false), (4, 6, false), (5, 7, false), (6, 8, false)]) [3, 4, 5, 6, 7, 14]) <|
    ww (qoo_ n a0 a1 a2 0 false a0 0 (.inr ()) hc4) <|
    ee) (by kernel_rfl)
 ·rw [if_neg hc2] at h
  obtain rfl := oI h
  exact runF2 hm (kW [6, 7] [(0, 3, false), (1, 4, false)] 2 0) (k0 <|
   zz 10 (xnT hc2) <|
   ee) (by kernel_rfl)

def qib_ (a0 : W8) (r : Unit) : Value := match r with
 | _ => (Value.func (.func 58) #[] #[(pN 0 0)])
def qic_ (a0 : W8) (r : Unit) : AH := match r with
 | _ => ⟨sB [(0, (cB [(wlV a0)] 22))], 1, 0⟩
abbrev qop_ (a0 : W8) (r : Unit) : Prop := Gv P (.func 39) [(wlV a0)] ⟨sB [], 0, 0⟩ (qib_ a0 r) (qic_ a0 r)
abbrev qoq_ (a0 : W8) (r : Unit) (ins outs : BL) : CallA := ⟨0, ins, qib_ a0 r, qic_ a0 r, outs⟩
def qdi_ (n : Nat) (a0 : W8) : Option (Unit) :=
 some ()
theorem qmg_ (n : Nat) (a0 : W8) (r : Unit) (h : qdi_ n a0 = some r) : qop_ a0 r := by
 unfold qdi_ at h
 obtain rfl := oI h
 exact runF2 hm (kW [2] [(0, 0, false)] 1 0) (ee) (by kernel_rfl)

def qt5_ (a0 : Int) (a1 : List (Bool)) (a2 : Nat) (a3 : Nat) (r : Bool) : Value := match r with
 | o0 => (bO o0)
def qt6_ (a0 : Int) (a1 : List (Bool)) (a2 : Nat) (a3 : Nat) (r : Bool) : AH := match r with
 | o0 => ⟨sB [], 2, 2⟩
abbrev q01_ (a0 : Int) (a1 : List (Bool)) (a2 : Nat) (a3 : Nat) (r : Bool) : Prop := Gv P (.func 41) [(i6 a0), (pN 0 0)] ⟨sB [(0, (cB [(sN 1 0 a2 a3)] 41)), (1, (cB (rows rw_b a1) 4))], 2, 2⟩ (qt5_ a0 a1 a2 a3 r) (qt6_ a0 a1 a2 a3 r)
abbrev q02_ (a0 : Int) (a1 : List (Bool)) (a2 : Nat) (a3 : Nat) (r : Bool) (ins outs : BL) : CallA := ⟨2, ins, qt5_ a0 a1 a2 a3 r, qt6_ a0 a1 a2 a3 r, outs⟩
def qix_ (n : Nat) (a0 : Int) (a1 : List (Bool)) (a2 : Nat) (a3 : Nat) : Option (Bool) :=
 if 0 ≤ a0 ∧ a0 < ((a2 : Nat) : Int) then
  if (a0).toNat < (a1).length then
   ((some ((a1).getD (a0).toNat (false)))).bind fun c3_ =>
   some c3_
  else none
 else none
theorem qv7_ (n : Nat) (a0 : Int) (a1 : List (Bool)) (a2 : Nat) (a3 : Nat) (r : Bool) (h : qix_ n a0 a1 a2 a3 = some r) : q01_ a0 a1 a2 a3 r := by
 unfold qix_ at h
 obtain ⟨hc1, h⟩ := gd h
 obtain ⟨hc2, h⟩ := gd h
 obtain ⟨c3_, hc3, h⟩ := oB h
 obtain rfl := oI h
 exact runF2 hm (kW [3] [] 2 2) (zz 5 (xk13 1 a3 hc1) <|
  zz 6 (ok14 hc3 (hc2)) <|
  ee) (by kernel_rfl)

def qid_ (a0 : NL) (a1 : List (Bool)) (a2 : Nat) (a3 : Nat) (r : Int) : Value := match r with
 | o0 => (i6 o0)
def qie_ (a0 : NL) (a1 : List (Bool)) (a2 : Nat) (a3 : Nat) (r : Int) : AH := match r with
 | o0 => ⟨sB [], 2, 2⟩
abbrev qor_ (a0 : NL) (a1 : List (Bool)) (a2 : Nat) (a3 : Nat) (r : Int) : Prop := Gv P (.func 59) [(nlV a0), (Value.func (.func 41) #[] #[(pN 0 0)])] ⟨sB [(0, (cB [(sN 1 0 a2 a3)] 41)), (1, (cB (rows rw_b a1) 4))], 2, 2⟩ (qid_ a0 a1 a2 a3 r) (qie_ a0 a1 a2 a3 r)
abbrev qos_ (a0 : NL) (a1 : List (Bool)) (a2 : Nat) (a3 : Nat) (r : Int) (ins outs : BL) : CallA := ⟨2, ins, qid_ a0 a1 a2 a3 r, qie_ a0 a1 a2 a3 r, outs⟩
def qcz_ (x1_0 : List (Bool)) (x1_1 : Nat) (x1_2 : Nat) (x1_3 : NL) (x1_4 : Int) (st : Int) : XSt := match st with
 | x1_5 => (sT 19 [(0, (nlV x1_3)), (1, (Value.func (.func 41) #[] #[(pN 0 0)])), (7, (i6 x1_4)), (8, (i6 x1_5))], [], ⟨sB [(0, (cB [(sN 1 0 x1_1 x1_2)] 41)), (1, (cB (rows rw_b x1_0) 4))], 2, 2⟩)
def qy_ (x1_0 : List (Bool)) (x1_1 : Nat) (x1_2 : Nat) (x1_3 : NL) (x1_4 : Int) (r : (Int) ⊕ (Unit)) : Ex × XSt := match r with
 | .inl z1_0 => (.ret, (sT 19 [(4, (i6 z1_0))], [], ⟨sB [(0, (cB [(sN 1 0 x1_1 x1_2)] 41)), (1, (cB (rows rw_b x1_0) 4))], 2, 2⟩))
 | .inr _ => (.exit 0, (sT 19 [], [], ⟨sB [(0, (cB [(sN 1 0 x1_1 x1_2)] 41)), (1, (cB (rows rw_b x1_0) 4))], 2, 2⟩))
abbrev qes_ (rd : Option Nat) (x1_0 : List (Bool)) (x1_1 : Nat) (x1_2 : Nat) (x1_3 : NL) (x1_4 : Int) (st : Int) (r : (Int) ⊕ (Unit)) : Prop := CG P rd (fnN P 59) 2 (qw_ P 59 [false, true, false, true]) (qcz_ x1_0 x1_1 x1_2 x1_3 x1_4 st) (qy_ x1_0 x1_1 x1_2 x1_3 x1_4 r)
def qp_ (n : Nat) (x1_0 : List (Bool)) (x1_1 : Nat) (x1_2 : Nat) (x1_3 : NL) (x1_4 : Int) (st : Int) : Option ((Int) ⊕ ((Int) ⊕ (Unit))) := match st with
 | x1_5 =>
  if x1_5 < x1_4 then
   if 0 ≤ x1_5 ∧ x1_5 < (((x1_3).l.length : Nat) : Int) then
    if (x1_5).toNat < ((x1_3).l).length then
     ((some (((x1_3).l).getD (x1_5).toNat 0))).bind fun y1_4_ =>
     (qix_ n y1_4_ x1_0 x1_1 x1_2).bind fun y1_5_ =>
     if y1_5_ = true then
      some (.inr (.inl x1_5))
     else
      some (.inl (w64 (x1_5 + (1 : Int))))
    else none
   else none
  else
   some (.inr (.inr ()))
def qc0_ (n : Nat) (x1_0 : List (Bool)) (x1_1 : Nat) (x1_2 : Nat) (x1_3 : NL) (x1_4 : Int) (st : Int) : Option ((Int) ⊕ (Unit)) := iterM (qp_ n x1_0 x1_1 x1_2 x1_3 x1_4) n st
theorem qg4_ (n : Nat) {rnd : Option Nat} (x1_0 : List (Bool)) (x1_1 : Nat) (x1_2 : Nat) (x1_3 : NL) (x1_4 : Int) (x1_5 : Int) (o : (Int) ⊕ ((Int) ⊕ (Unit))) (h : qp_ n x1_0 x1_1 x1_2 x1_3 x1_4 x1_5 = some o) : CG P rnd (fnN P 59) 2 (qw_ P 59 [false, false, true, false, true]) (qcz_ x1_0 x1_1 x1_2 x1_3 x1_4 x1_5) (Sum.elim (fun s => (.normal, qcz_ x1_0 x1_1 x1_2 x1_3 x1_4 s)) (fun r => qy_ x1_0 x1_1 x1_2 x1_3 x1_4 r) o) := by
 unfold qp_ at h
 dsimp only at h
 by_cases hy1_1 : x1_5 < x1_4
 ·rw [if_pos hy1_1] at h
  obtain ⟨hy1_2, h⟩ := gd h
  obtain ⟨hy1_3, h⟩ := gd h
  obtain ⟨y1_4_, hy1_4, h⟩ := oB h
  obtain ⟨y1_5_, hy1_5, h⟩ := oB h
  have k0 := fun {A L l} (k : PL A L l) => zz 1 (xdT hy1_1) <|
   zz 13 (xk8 (Nat.add (x1_3).num 64) (x1_3).off (x1_3).cap hy1_2) <|
   zz 14 (nk9 hy1_4 hy1_3) <|
   yy 15 (.call (q02_ y1_4_ x1_0 x1_1 x1_2 y1_5_ [(0, 0, false), (1, 1, true)] [])) <|
   ww (qv7_ n y1_4_ x1_0 x1_1 x1_2 y1_5_ hy1_5) <|
   ww (qb_ rwf_b x1_0 4) <|
   k
  by_cases hy1_6 : y1_5_ = true
  ·rw [if_pos hy1_6] at h
   obtain rfl := oI h
   exact runC2 hm (kW [4] [(0, 0, false), (1, 1, true)] 2 2) (k0 <|
    zz 16 (xbT hy1_6) <|
    ww (qb_ rwf_b x1_0 4) <|
    ee) (by kernel_rfl)
  ·rw [if_neg hy1_6] at h
   obtain rfl := oI h
   exact runC2 hm (kW [0, 1, 7, 8] [(0, 0, false), (1, 1, true)] 2 2) (k0 <|
    zz 16 (xbF hy1_6) <|
    ww (qb_ rwf_b x1_0 4) <|
    ee) (by kernel_rfl)
 ·rw [if_neg hy1_1] at h
  obtain rfl := oI h
  exact runC2 hm (kW [] [(0, 0, false), (1, 1, true)] 2 2) (zz 1 (xdF hy1_1) <|
   ww (qb_ rwf_b x1_0 4) <|
   ee) (by kernel_rfl)
theorem qf8_ (n : Nat) {rnd : Option Nat} (x1_0 : List (Bool)) (x1_1 : Nat) (x1_2 : Nat) (x1_3 : NL) (x1_4 : Int) (st : Int) (r : (Int) ⊕ (Unit)) (h : qc0_ n x1_0 x1_1 x1_2 x1_3 x1_4 st = some r) : qes_ rnd x1_0 x1_1 x1_2 x1_3 x1_4 st r :=
 CG.iter (b := qw_ P 59 [false, false, true, false, true]) (by kernel_rfl) (body := qp_ n x1_0 x1_1 x1_2 x1_3 x1_4) (S := qcz_ x1_0 x1_1 x1_2 x1_3 x1_4) (X := qy_ x1_0 x1_1 x1_2 x1_3 x1_4)
  (fun s s' h => qg4_ n x1_0 x1_1 x1_2 x1_3 x1_4 s (.inl s') h)
  (fun s r h => qg4_ n x1_0 x1_1 x1_2 x1_3 x1_4 s (.inr r) h)
  (fun r => by intro hx; rcases r with _ | _ <;> cases hx) h
def qdj_ (n : Nat) (a0 : NL) (a1 : List (Bool)) (a2 : Nat) (a3 : Nat) : Option (Int) :=
 match qc0_ n a1 a2 a3 a0 (((a0).l.length : Nat) : Int) 0 with
 | none => none
 | some (.inl c1_) =>
  some c1_
 | some (.inr _) =>
  some (-1)
theorem qmh_ (n : Nat) (a0 : NL) (a1 : List (Bool)) (a2 : Nat) (a3 : Nat) (r : Int) (h : qdj_ n a0 a1 a2 a3 = some r) : qor_ a0 a1 a2 a3 r := by
 unfold qdj_ at h
 rcases hc1 : qc0_ n a1 a2 a3 a0 (((a0).l.length : Nat) : Int) 0 with _ | (c1_ | ⟨⟩)
 ·rw [hc1] at h; cases h
 ·rw [hc1] at h
  dsimp only at h
  obtain rfl := oI h
  exact runF2 hm (kW [4] [] 2 2) (ww (p := qes_ none a1 a2 a3 a0 (((a0).l.length : Nat) : Int) 0 (.inl c1_)) (qf8_ n a1 a2 a3 a0 (((a0).l.length : Nat) : Int) 0 (.inl c1_) hc1) <|
   ww (qb_ rwf_b a1 4) <|
   ll 8 ⟨(kW [0, 1, 7, 8] [(0, 0, false), (1, 1, true)] 2 2), (qy_ a1 a2 a3 a0 (((a0).l.length : Nat) : Int) (.inl c1_)).1, (qy_ a1 a2 a3 a0 (((a0).l.length : Nat) : Int) (.inl c1_)).2⟩ <|
   ee) (by kernel_rfl)
 ·rw [hc1] at h
  dsimp only at h
  obtain rfl := oI h
  exact runF2 hm (kW [4] [] 2 2) (ww (p := qes_ none a1 a2 a3 a0 (((a0).l.length : Nat) : Int) 0 (.inr ())) (qf8_ n a1 a2 a3 a0 (((a0).l.length : Nat) : Int) 0 (.inr ()) hc1) <|
   ww (qb_ rwf_b a1 4) <|
   ll 8 ⟨(kW [0, 1, 7, 8] [(0, 0, false), (1, 1, true)] 2 2), (qy_ a1 a2 a3 a0 (((a0).l.length : Nat) : Int) (.inr ())).1, (qy_ a1 a2 a3 a0 (((a0).l.length : Nat) : Int) (.inr ())).2⟩ <|
   ee) (by kernel_rfl)

def qgq_ (a0 : NL) (a1 : List (Bool)) (a2 : Nat) (a3 : Nat) (r : Bool) : Value := match r with
 | o0 => (bO o0)
def qgr_ (a0 : NL) (a1 : List (Bool)) (a2 : Nat) (a3 : Nat) (r : Bool) : AH := match r with
 | o0 => ⟨sB [], 2, 2⟩
abbrev qmi_ (a0 : NL) (a1 : List (Bool)) (a2 : Nat) (a3 : Nat) (r : Bool) : Prop := Gv P (.func 40) [(nlV a0), (Value.func (.func 41) #[] #[(pN 0 0)])] ⟨sB [(0, (cB [(sN 1 0 a2 a3)] 41)), (1, (cB (rows rw_b a1) 4))], 2, 2⟩ (qgq_ a0 a1 a2 a3 r) (qgr_ a0 a1 a2 a3 r)
abbrev qmj_ (a0 : NL) (a1 : List (Bool)) (a2 : Nat) (a3 : Nat) (r : Bool) (ins outs : BL) : CallA := ⟨2, ins, qgq_ a0 a1 a2 a3 r, qgr_ a0 a1 a2 a3 r, outs⟩
def qb0_ (n : Nat) (a0 : NL) (a1 : List (Bool)) (a2 : Nat) (a3 : Nat) : Option (Bool) :=
 (qdj_ n a0 a1 a2 a3).bind fun c1_ =>
 if c1_ ≥ (0 : Int) then
  some true
 else
  some false
theorem qkb_ (n : Nat) (a0 : NL) (a1 : List (Bool)) (a2 : Nat) (a3 : Nat) (r : Bool) (h : qb0_ n a0 a1 a2 a3 = some r) : qmi_ a0 a1 a2 a3 r := by
 unfold qb0_ at h
 obtain ⟨c1_, hc1, h⟩ := oB h
 have k0 := fun {A L l} (k : PL A L l) => yy 5 (.call (qos_ a0 a1 a2 a3 c1_ [(0, 0, false), (1, 1, true)] [])) <|
  ww (qmh_ n a0 a1 a2 a3 c1_ hc1) <|
  ww (qb_ rwf_b a1 4) <|
  k
 by_cases hc2 : c1_ ≥ (0 : Int)
 ·rw [if_pos hc2] at h
  obtain rfl := oI h
  exact runF2 hm (kW [4] [] 2 2) (k0 <|
   zz 6 (xdT hc2) <|
   ee) (by kernel_rfl)
 ·rw [if_neg hc2] at h
  obtain rfl := oI h
  exact runF2 hm (kW [4] [] 2 2) (k0 <|
   zz 6 (xdF hc2) <|
   ee) (by kernel_rfl)

def qmk_ (a0 : List (Bool)) (a1 : Nat) (a2 : Nat) (a3 : W8) (a4 : Int) (a5 : Int) (a6 : Int) (a7 : Int) (a8 : Int) (a9 : Int) (a10 : Int) (a11 : NL) (a12 : Int) (r : List (Bool)) : Value := match r with
 | o0 => (bO true)
def qml_ (a0 : List (Bool)) (a1 : Nat) (a2 : Nat) (a3 : W8) (a4 : Int) (a5 : Int) (a6 : Int) (a7 : Int) (a8 : Int) (a9 : Int) (a10 : Int) (a11 : NL) (a12 : Int) (r : List (Bool)) : AH := match r with
 | o0 => ⟨sB [(0, (some (rblk P 20 [false, true, false, true, true, true] .ready none [(3, (pN 2 0)), (13, (Value.func (.func 58) #[] #[(pN 4 0)]))] 1))), (1, (some (.marks true))), (2, (cB [(sN 3 0 a1 a2)] 41)), (3, (cB (rows rw_b o0) 4)), (4, (cB [(wlV a3)] 22))], 5, 0⟩
abbrev qs3_ (a0 : List (Bool)) (a1 : Nat) (a2 : Nat) (a3 : W8) (a4 : Int) (a5 : Int) (a6 : Int) (a7 : Int) (a8 : Int) (a9 : Int) (a10 : Int) (a11 : NL) (a12 : Int) (r : List (Bool)) : Prop := Gv P (.yield 0) [(i6 a4), (Value.agg #[(i6 a5), (i6 a6), (i6 a7), (i6 a8), (i6 a9), (i6 a10), (nlV a11), (Value.int .u64 a12)])] ⟨sB [(0, (some (rblk P 20 [false, true, false, true, true, true] .ready none [(3, (pN 2 0)), (13, (Value.func (.func 58) #[] #[(pN 4 0)]))] 1))), (1, (some (.marks true))), (2, (cB [(sN 3 0 a1 a2)] 41)), (3, (cB (rows rw_b a0) 4)), (4, (cB [(wlV a3)] 22))], 5, 5⟩ (qmk_ a0 a1 a2 a3 a4 a5 a6 a7 a8 a9 a10 a11 a12 r) (qml_ a0 a1 a2 a3 a4 a5 a6 a7 a8 a9 a10 a11 a12 r)
abbrev qs4_ (a0 : List (Bool)) (a1 : Nat) (a2 : Nat) (a3 : W8) (a4 : Int) (a5 : Int) (a6 : Int) (a7 : Int) (a8 : Int) (a9 : Int) (a10 : Int) (a11 : NL) (a12 : Int) (r : List (Bool)) (ins outs : BL) : CallA := ⟨5, ins, qmk_ a0 a1 a2 a3 a4 a5 a6 a7 a8 a9 a10 a11 a12 r, qml_ a0 a1 a2 a3 a4 a5 a6 a7 a8 a9 a10 a11 a12 r, outs⟩
def qd6_ (n : Nat) (a0 : List (Bool)) (a1 : Nat) (a2 : Nat) (a3 : W8) (a4 : Int) (a5 : Int) (a6 : Int) (a7 : Int) (a8 : Int) (a9 : Int) (a10 : Int) (a11 : NL) (a12 : Int) : Option (List (Bool)) :=
 if a12 = (0 : Int) then
  (qb0_ n a11 a0 a1 a2).bind fun c2_ =>
  if 0 ≤ a4 ∧ a4 < ((a1 : Nat) : Int) then
   if (a4).toNat < (a0).length then
    some ((a0).set (a4).toNat c2_)
   else none
  else none
 else
  if 0 ≤ a4 ∧ a4 < ((a1 : Nat) : Int) then
   if (a4).toNat < (a0).length then
    some ((a0).set (a4).toNat true)
   else none
  else none
theorem qp9_ (n : Nat) (a0 : List (Bool)) (a1 : Nat) (a2 : Nat) (a3 : W8) (a4 : Int) (a5 : Int) (a6 : Int) (a7 : Int) (a8 : Int) (a9 : Int) (a10 : Int) (a11 : NL) (a12 : Int) (r : List (Bool)) (h : qd6_ n a0 a1 a2 a3 a4 a5 a6 a7 a8 a9 a10 a11 a12 = some r) : qs3_ a0 a1 a2 a3 a4 a5 a6 a7 a8 a9 a10 a11 a12 r := by
 unfold qd6_ at h
 by_cases hc1 : a12 = (0 : Int)
 ·rw [if_pos hc1] at h
  obtain ⟨c2_, hc2, h⟩ := oB h
  obtain ⟨hc3, h⟩ := gd h
  obtain ⟨hc4, h⟩ := gd h
  obtain rfl := oI h
  exact runY2 hm (kW [] [(0, 0, false), (1, 1, false), (2, 2, false), (3, 3, true), (4, 4, false)] 5 0) (ee) (zz 5 (xnF hc1) <|
   yy 10 (.call (qmj_ a11 a0 a1 a2 c2_ [(0, 2, false), (1, 3, true)] [])) <|
   ww (qkb_ n a11 a0 a1 a2 c2_ hc2) <|
   ww (qb_ rwf_b a0 4) <|
   zz 12 (xk13 3 a2 hc3) <|
   yy 13 (.sto (layT (rows rw_b ((a0).set (a4).toNat c2_)))) <|
   ww (p := ∃ old, rdT (layT (rows rw_b a0)) 1 ((a4).toNat * 1) = some old) (Exists.elim (qnj_ rwf_b (false) (i := (a4).toNat) (j := 0) (l := [(bO c2_)]) c2_ ((a4).toNat * 1) rfl (hc4) (Nat.le_of_ble_eq_true rfl) rfl) fun o h => ⟨o, h.1⟩) <|
   ww (p := layL [(bO c2_)] ((a4).toNat * 1) (layT (rows rw_b a0)) = layT (rows rw_b ((a0).set (a4).toNat c2_))) (Exists.elim (qnj_ rwf_b (false) (i := (a4).toNat) (j := 0) (l := [(bO c2_)]) c2_ ((a4).toNat * 1) rfl (hc4) (Nat.le_of_ble_eq_true rfl) rfl) fun o h => h.2) <|
   ww (qb_ rwf_b ((a0).set (a4).toNat c2_) 4) <|
   ee) (by kernel_rfl)
 ·rw [if_neg hc1] at h
  obtain ⟨hc2, h⟩ := gd h
  obtain ⟨hc3, h⟩ := gd h
  obtain rfl := oI h
  exact runY2 hm (kW [] [(0, 0, false), (1, 1, false), (2, 2, false), (3, 3, true), (4, 4, false)] 5 0) (ee) (zz 5 (xnT hc1) <|
   zz 12 (xk13 3 a2 hc2) <|
   yy 13 (.sto (layT (rows rw_b ((a0).set (a4).toNat true)))) <|
   ww (p := ∃ old, rdT (layT (rows rw_b a0)) 1 ((a4).toNat * 1) = some old) (Exists.elim (qnj_ rwf_b (false) (i := (a4).toNat) (j := 0) (l := [(bO true)]) true ((a4).toNat * 1) rfl (hc3) (Nat.le_of_ble_eq_true rfl) rfl) fun o h => ⟨o, h.1⟩) <|
   ww (p := layL [(bO true)] ((a4).toNat * 1) (layT (rows rw_b a0)) = layT (rows rw_b ((a0).set (a4).toNat true))) (Exists.elim (qnj_ rwf_b (false) (i := (a4).toNat) (j := 0) (l := [(bO true)]) true ((a4).toNat * 1) rfl (hc3) (Nat.le_of_ble_eq_true rfl) rfl) fun o h => h.2) <|
   ww (qb_ rwf_b ((a0).set (a4).toNat true) 4) <|
   ee) (by kernel_rfl)

def qhj_ (a0 : List (Bool)) (a1 : Nat) (a2 : Nat) (a3 : W8) (r : List (Bool)) : Value := match r with
 | o0 => (Value.tuple #[])
def qhk_ (a0 : List (Bool)) (a1 : Nat) (a2 : Nat) (a3 : W8) (r : List (Bool)) : AH := match r with
 | o0 => ⟨sB [(0, (some (rblk P 20 [false, true, false, true, true, true] .ready none [(3, (pN 2 0)), (13, (Value.func (.func 58) #[] #[(pN 4 0)]))] 1))), (1, (some (.marks true))), (2, (cB [(sN 3 0 a1 a2)] 41)), (3, (cB (rows rw_b o0) 4)), (4, (cB [(wlV a3)] 22))], 5, 0⟩
abbrev qnz_ (a0 : List (Bool)) (a1 : Nat) (a2 : Nat) (a3 : W8) (r : List (Bool)) : Prop := Gv P (.func 58) [(Value.func (.yield 0) #[] #[]), (pN 4 0)] ⟨sB [(0, (some (rblk P 20 [false, true, false, true, true, true] .ready none [(3, (pN 2 0)), (13, (Value.func (.func 58) #[] #[(pN 4 0)]))] 1))), (1, (some (.marks true))), (2, (cB [(sN 3 0 a1 a2)] 41)), (3, (cB (rows rw_b a0) 4)), (4, (cB [(wlV a3)] 22))], 5, 5⟩ (qhj_ a0 a1 a2 a3 r) (qhk_ a0 a1 a2 a3 r)
abbrev qn0_ (a0 : List (Bool)) (a1 : Nat) (a2 : Nat) (a3 : W8) (r : List (Bool)) (ins outs : BL) : CallA := ⟨5, ins, qhj_ a0 a1 a2 a3 r, qhk_ a0 a1 a2 a3 r, outs⟩
def qcn_ (x1_1 : Nat) (x1_2 : Nat) (x1_3 : W8) (st : List (Bool) × Int) : XSt := match st with
 | (x1_0, x1_4) => (sT 19 [(0, (Value.func (.yield 0) #[] #[])), (1, (pN 4 0)), (3, (i6 x1_4))], [], ⟨sB [(0, (some (rblk P 20 [false, true, false, true, true, true] .ready none [(3, (pN 2 0)), (13, (Value.func (.func 58) #[] #[(pN 4 0)]))] 1))), (1, (some (.marks true))), (2, (cB [(sN 3 0 x1_1 x1_2)] 41)), (3, (cB (rows rw_b x1_0) 4)), (4, (cB [(wlV x1_3)] 22))], 5, 0⟩)
def qb1_ (x1_1 : Nat) (x1_2 : Nat) (x1_3 : W8) (r : List (Bool)) : Ex × XSt := match r with
 | z1_0 => (.exit 0, (sT 19 [], [], ⟨sB [(0, (some (rblk P 20 [false, true, false, true, true, true] .ready none [(3, (pN 2 0)), (13, (Value.func (.func 58) #[] #[(pN 4 0)]))] 1))), (1, (some (.marks true))), (2, (cB [(sN 3 0 x1_1 x1_2)] 41)), (3, (cB (rows rw_b z1_0) 4)), (4, (cB [(wlV x1_3)] 22))], 5, 0⟩))
abbrev qmm_ (rnd : Option Nat) (x1_1 : Nat) (x1_2 : Nat) (x1_3 : W8) (st : List (Bool) × Int) (c : Ex × XSt) : Prop := CG P rnd (fnN P 58) 5 (qw_ P 58 [false, false, true]) (qcn_ x1_1 x1_2 x1_3 st) c
abbrev qgs_ (rd : Option Nat) (x1_1 : Nat) (x1_2 : Nat) (x1_3 : W8) (st : List (Bool) × Int) (r : List (Bool)) : Prop := CG P rd (fnN P 58) 5 (qw_ P 58 [false, true]) (qcn_ x1_1 x1_2 x1_3 st) (qb1_ x1_1 x1_2 x1_3 r)
def qi_ (n : Nat) (x1_1 : Nat) (x1_2 : Nat) (x1_3 : W8) (st : List (Bool) × Int) : Option ((List (Bool) × Int) ⊕ (List (Bool))) := match st with
 | (x1_0, x1_4) =>
  if x1_4 ≥ (0 : Int) then
   if 0 ≤ x1_4 ∧ x1_4 < (((x1_3).l.length : Nat) : Int) then
    ((some (((x1_3).l).getD (x1_4).toNat (0, 0, 0, 0, 0, 0, nl0, 0)))).bind fun y1_3_ =>
    (qd6_ n x1_0 x1_1 x1_2 x1_3 x1_4 (y1_3_.1) (y1_3_.2.1) (y1_3_.2.2.1) (y1_3_.2.2.2.1) (y1_3_.2.2.2.2.1) (y1_3_.2.2.2.2.2.1) (y1_3_.2.2.2.2.2.2.1) (y1_3_.2.2.2.2.2.2.2)).bind fun y1_4_ =>
    some (.inl (y1_4_, (w64 (x1_4 - (1 : Int)))))
   else none
  else
   some (.inr x1_0)
def qd7_ (n : Nat) (x1_1 : Nat) (x1_2 : Nat) (x1_3 : W8) (st : List (Bool) × Int) : Option (List (Bool)) := iterM (qi_ n x1_1 x1_2 x1_3) n st
theorem qgt_ (n : Nat) {rnd : Option Nat} (x1_1 : Nat) (x1_2 : Nat) (x1_3 : W8) (st : List (Bool) × Int) (o : (List (Bool) × Int) ⊕ (List (Bool))) (h : qi_ n x1_1 x1_2 x1_3 st = some o) : qmm_ rnd x1_1 x1_2 x1_3 st (Sum.elim (fun s => (.normal, qcn_ x1_1 x1_2 x1_3 s)) (fun r => qb1_ x1_1 x1_2 x1_3 r) o) := by
 obtain ⟨x1_0, x1_4⟩ := st
 unfold qi_ at h
 dsimp only at h
 by_cases hy1_1 : x1_4 ≥ (0 : Int)
 ·rw [if_pos hy1_1] at h
  obtain ⟨hy1_2, h⟩ := gd h
  obtain ⟨y1_3_, hy1_3, h⟩ := oB h
  obtain ⟨y1_4_, hy1_4, h⟩ := oB h
  obtain rfl := oI h
  exact runC2 hm (kW [0, 1, 3] [(0, 0, false), (1, 1, false), (2, 2, false), (3, 3, true), (4, 4, false)] 5 0) (zz 3 (xdT hy1_1) <|
   zz 12 (xk1 (x1_3).num (x1_3).off (x1_3).cap hy1_2) <|
   zz 13 (lk2 hy1_3 (qba_ hy1_2)) <|
   yy 14 (.call (qs4_ x1_0 x1_1 x1_2 x1_3 x1_4 (y1_3_.1) (y1_3_.2.1) (y1_3_.2.2.1) (y1_3_.2.2.2.1) (y1_3_.2.2.2.2.1) (y1_3_.2.2.2.2.2.1) (y1_3_.2.2.2.2.2.2.1) (y1_3_.2.2.2.2.2.2.2) y1_4_ [(0, 0, false), (1, 1, false), (2, 2, false), (3, 3, true), (4, 4, false)] [(0, 0, false), (1, 1, false), (2, 2, false), (3, 3, true), (4, 4, false)])) <|
   ww (qp9_ n x1_0 x1_1 x1_2 x1_3 x1_4 (y1_3_.1) (y1_3_.2.1) (y1_3_.2.2.1) (y1_3_.2.2.2.1) (y1_3_.2.2.2.2.1) (y1_3_.2.2.2.2.2.1) (y1_3_.2.2.2.2.2.2.1) (y1_3_.2.2.2.2.2.2.2) y1_4_ hy1_4) <|
   ww (qb_ rwf_b x1_0 4) <|
   ww (qb_ rwf_b y1_4_ 4) <|
   ww (qb_ rwf_b y1_4_ 4) <|
   ee) (by kernel_rfl)
 ·rw [if_neg hy1_1] at h
  obtain rfl := oI h
  exact runC2 hm (kW [] [(0, 0, false), (1, 1, false), (2, 2, false), (3, 3, true), (4, 4, false)] 5 0) (zz 3 (xdF hy1_1) <|
   ww (qb_ rwf_b x1_0 4) <|
   ee) (by kernel_rfl)
theorem qkc_ (n : Nat) {rnd : Option Nat} (x1_1 : Nat) (x1_2 : Nat) (x1_3 : W8) (st : List (Bool) × Int) (r : List (Bool)) (h : qd7_ n x1_1 x1_2 x1_3 st = some r) : qgs_ rnd x1_1 x1_2 x1_3 st r :=
 CG.iter (b := qw_ P 58 [false, false, true]) (by kernel_rfl) (body := qi_ n x1_1 x1_2 x1_3) (S := qcn_ x1_1 x1_2 x1_3) (X := qb1_ x1_1 x1_2 x1_3)
  (fun s s' h => qgt_ n x1_1 x1_2 x1_3 s (.inl s') h)
  (fun s r h => qgt_ n x1_1 x1_2 x1_3 s (.inr r) h)
  (fun r => by intro hx; cases hx) h
def qdc_ (n : Nat) (a0 : List (Bool)) (a1 : Nat) (a2 : Nat) (a3 : W8) : Option (List (Bool)) :=
 ((some (w64 ((((a3).l.length : Nat) : Int) - (1 : Int))))).bind fun c1_ =>
 (qd7_ n a1 a2 a3 (a0, c1_)).bind fun c2_ =>
 some c2_
theorem qlq_ (n : Nat) (a0 : List (Bool)) (a1 : Nat) (a2 : Nat) (a3 : W8) (r : List (Bool)) (h : qdc_ n a0 a1 a2 a3 = some r) : qnz_ a0 a1 a2 a3 r := by
 unfold qdc_ at h
 obtain ⟨c1_, hc1, h⟩ := oB h
 obtain ⟨c2_, hc2, h⟩ := oB h
 obtain rfl := oI h
 exact runF2 hm (kW [] [(0, 0, false), (1, 1, false), (2, 2, false), (3, 3, true), (4, 4, false)] 5 0) (zz 3 (xnm hc1) <|
  ww (p := qgs_ none a1 a2 a3 (a0, c1_) c2_) (qkc_ n a1 a2 a3 (a0, c1_) c2_ hc2) <|
  ww (qb_ rwf_b a0 4) <|
  ll 6 ⟨(kW [0, 1, 3] [(0, 0, false), (1, 1, false), (2, 2, false), (3, 3, true), (4, 4, false)] 5 0), (qb1_ a1 a2 a3 c2_).1, (qb1_ a1 a2 a3 c2_).2⟩ <|
  ww (qb_ rwf_b c2_ 4) <|
  ee) (by kernel_rfl)

def qvn_ (a0 : W8) (r : (List (Bool)) ⊕ (Unit)) : Value := match r with
 | .inl o0 => (sN 1 0 (((((a0).l.length : Nat) : Int)).toNat) (((((a0).l.length : Nat) : Int)).toNat))
 | .inr _ => (Value.slice none 0 0)
def qvo_ (a0 : W8) (r : (List (Bool)) ⊕ (Unit)) : AH := match r with
 | .inl o0 => ⟨sB [(0, (some (.marks false))), (1, (cB (rows rw_b o0) 4))], 2, 0⟩
 | .inr _ => ⟨sB [], 0, 0⟩
abbrev G_treeStaleq1 (a0 : W8) (r : (List (Bool)) ⊕ (Unit)) : Prop := Gv P (.func 20) [(wlV a0)] ⟨sB [], 0, 0⟩ (qvn_ a0 r) (qvo_ a0 r)
abbrev qif_ (a0 : W8) (r : (List (Bool)) ⊕ (Unit)) (ins outs : BL) : CallA := ⟨0, ins, qvn_ a0 r, qvo_ a0 r, outs⟩
def qch_ (n : Nat) (a0 : W8) : Option ((List (Bool)) ⊕ (Unit)) :=
 (q6_ n a0).bind fun c1_ =>
 if c1_ = (0 : Int) then
  if 0 ≤ (((a0).l.length : Nat) : Int) then
   if ((((a0).l.length : Nat) : Int)).toNat * 1 ≤ 140737488355328 then
    (qdi_ n a0).bind fun _ =>
    (qdc_ n (List.replicate ((((a0).l.length : Nat) : Int)).toNat (false)) (((((a0).l.length : Nat) : Int)).toNat) (((((a0).l.length : Nat) : Int)).toNat) a0).bind fun c6_ =>
    some (.inl c6_)
   else none
  else none
 else
  some (.inr ())
theorem qfk_ (n : Nat) (a0 : W8) (r : (List (Bool)) ⊕ (Unit)) (h : qch_ n a0 = some r) : G_treeStaleq1 a0 r := by
 unfold qch_ at h
 obtain ⟨c1_, hc1, h⟩ := oB h
 have k0 := fun {A L l} (k : PL A L l) => yy 5 (.call (qnl_ a0 c1_ [] [])) <|
  ww (qiw_ n a0 c1_ hc1) <|
  k
 by_cases hc2 : c1_ = (0 : Int)
 ·rw [if_pos hc2] at h
  obtain ⟨hc3, h⟩ := gd h
  obtain ⟨hc4, h⟩ := gd h
  obtain ⟨_, hc5, h⟩ := oB h
  obtain ⟨c6_, hc6, h⟩ := oB h
  obtain rfl := oI h
  exact runF2 hm (kW [2] [(0, 3, false), (1, 0, true)] 2 0) (k0 <|
   zz 6 (xnF hc2) <|
   yy 11 (.mk ((((a0).l.length : Nat) : Int)).toNat (rows rw_b (List.replicate ((((a0).l.length : Nat) : Int)).toNat (false)))) <|
   ww (p := natOf (i6 (((a0).l.length : Nat) : Int)) = some ((((a0).l.length : Nat) : Int)).toNat) (ql0_ hc3) <|
   ww (p := natOf (i6 (((a0).l.length : Nat) : Int)) = some ((((a0).l.length : Nat) : Int)).toNat) (ql0_ hc3) <|
   ww (p := fits ((((a0).l.length : Nat) : Int)).toNat 1 = true) (qmb_ hc4 (by omega)) <|
   ww (p := isZ8 [(bO false)] = false) (rfl) <|
   ww (p := reps [(bO false)] ((((a0).l.length : Nat) : Int)).toNat = (rows rw_b (List.replicate ((((a0).l.length : Nat) : Int)).toNat (false)))) (q0p_ rw_b (false) _ rfl _) <|
   yy 17 (.call (qoq_ a0 () [] [(2, 0, false)])) <|
   ww (qmg_ n a0 () hc5) <|
   yy 19 (.rng (qn0_ (List.replicate ((((a0).l.length : Nat) : Int)).toNat (false)) (((((a0).l.length : Nat) : Int)).toNat) (((((a0).l.length : Nat) : Int)).toNat) a0 c6_ [(0, 4, false), (1, 3, false), (2, 1, false), (3, 0, true), (4, 2, false)] [(4, 0, false), (3, 1, false), (1, 2, false), (0, 3, true), (2, 4, false)]) [3, 13]) <|
   ww (qlq_ n (List.replicate ((((a0).l.length : Nat) : Int)).toNat (false)) (((((a0).l.length : Nat) : Int)).toNat) (((((a0).l.length : Nat) : Int)).toNat) a0 c6_ hc6) <|
   ww (qb_ rwf_b (List.replicate ((((a0).l.length : Nat) : Int)).toNat (false)) 4) <|
   ww (qb_ rwf_b c6_ 4) <|
   ww (qb_ rwf_b c6_ 4) <|
   ee) (by kernel_rfl)
 ·rw [if_neg hc2] at h
  obtain rfl := oI h
  exact runF2 hm (kW [2] [] 0 0) (k0 <|
   zz 6 (xnT hc2) <|
   ee) (by kernel_rfl)

def qpw_ (a0 : W8) (a1 : List (Bool)) (a2 : Nat) (a3 : Nat) (a4 : Int) (r : Bool) : Value := match r with
 | o0 => (bO o0)
def qpx_ (a0 : W8) (a1 : List (Bool)) (a2 : Nat) (a3 : Nat) (a4 : Int) (r : Bool) : AH := match r with
 | o0 => ⟨sB [], 1, 1⟩
abbrev qv8_ (a0 : W8) (a1 : List (Bool)) (a2 : Nat) (a3 : Nat) (a4 : Int) (r : Bool) : Prop := Gv P (.func 19) [(wlV a0), (sN 0 0 a2 a3), (i6 a4)] ⟨sB [(0, (cB (rows rw_b a1) 4))], 1, 1⟩ (qpw_ a0 a1 a2 a3 a4 r) (qpx_ a0 a1 a2 a3 a4 r)
abbrev qhw_ (a0 : W8) (a1 : List (Bool)) (a2 : Nat) (a3 : Nat) (a4 : Int) (r : Bool) (ins outs : BL) : CallA := ⟨1, ins, qpw_ a0 a1 a2 a3 a4 r, qpx_ a0 a1 a2 a3 a4 r, outs⟩
def qcw_ (n : Nat) (a0 : W8) (a1 : List (Bool)) (a2 : Nat) (a3 : Nat) (a4 : Int) : Option (Bool) :=
 if 0 ≤ a4 ∧ a4 < (((a0).l.length : Nat) : Int) then
  ((some (((a0).l).getD (a4).toNat (0, 0, 0, 0, 0, 0, nl0, 0)))).bind fun c2_ =>
  if (c2_.2.1) = (2 : Int) then
   if 0 ≤ a4 ∧ a4 < ((a2 : Nat) : Int) then
    if (a4).toNat < (a1).length then
     ((some ((a1).getD (a4).toNat (false)))).bind fun c6_ =>
     if c6_ = true then
      some false
     else
      some true
    else none
   else none
  else
   some false
 else none
theorem qfv_ (n : Nat) (a0 : W8) (a1 : List (Bool)) (a2 : Nat) (a3 : Nat) (a4 : Int) (r : Bool) (h : qcw_ n a0 a1 a2 a3 a4 = some r) : qv8_ a0 a1 a2 a3 a4 r := by
 unfold qcw_ at h
 obtain ⟨hc1, h⟩ := gd h
 obtain ⟨c2_, hc2, h⟩ := oB h
 have k0 := fun {A L l} (k : PL A L l) => zz 5 (xk1 (a0).num (a0).off (a0).cap hc1) <|
  zz 6 (fk15 (a0).num (Nat.add (a0).off ((a4).toNat * 8))) <|
  zz 7 (lk16 hc2 (qba_ hc1)) <|
  k
 by_cases hc3 : (c2_.2.1) = (2 : Int)
 ·rw [if_pos hc3] at h
  obtain ⟨hc4, h⟩ := gd h
  obtain ⟨hc5, h⟩ := gd h
  obtain ⟨c6_, hc6, h⟩ := oB h
  have k3 := fun {A L l} (k : PL A L l) => zz 8 (xeT hc3) <|
   zz 12 (xk13 0 a3 hc4) <|
   zz 13 (ok14 hc6 (hc5)) <|
   k
  by_cases hc7 : c6_ = true
  ·rw [if_pos hc7] at h
   obtain rfl := oI h
   exact runF2 hm (kW [6] [] 1 1) (k0 <|
    k3 <|
    yy 14 (vf) <|
    ww (p := (Value.bool (!c6_)) = (Value.bool false)) (vBn hc7) <|
    ee) (by kernel_rfl)
  ·rw [if_neg hc7] at h
   obtain rfl := oI h
   exact runF2 hm (kW [6] [] 1 1) (k0 <|
    k3 <|
    yy 14 (vt) <|
    ww (p := (Value.bool (!c6_)) = (Value.bool true)) (vBn (Bool.eq_false_iff.2 hc7)) <|
    ee) (by kernel_rfl)
 ·rw [if_neg hc3] at h
  obtain rfl := oI h
  exact runF2 hm (kW [6] [] 1 1) (k0 <|
   zz 8 (xeF hc3) <|
   ee) (by kernel_rfl)

def qzs_ (a0 : W8) (a1 : Int) (r : Bool) : Value := match r with
 | o0 => (bO o0)
def qzt_ (a0 : W8) (a1 : Int) (r : Bool) : AH := match r with
 | o0 => ⟨sB [], 0, 0⟩
abbrev G_treehasq1 (a0 : W8) (a1 : Int) (r : Bool) : Prop := Gv P (.func 42) [(wlV a0), (i6 a1)] ⟨sB [], 0, 0⟩ (qzs_ a0 a1 r) (qzt_ a0 a1 r)
abbrev C_treehasq1 (a0 : W8) (a1 : Int) (r : Bool) (ins outs : BL) : CallA := ⟨0, ins, qzs_ a0 a1 r, qzt_ a0 a1 r, outs⟩
def qrr_ (n : Nat) (a0 : W8) (a1 : Int) : Option (Bool) :=
 if a1 ≥ (0 : Int) then
  if a1 < (((a0).l.length : Nat) : Int) then
   (q6_ n a0).bind fun c3_ =>
   if c3_ = (0 : Int) then
    some true
   else
    some false
  else
   some false
 else
  some false
theorem q03_ (n : Nat) (a0 : W8) (a1 : Int) (r : Bool) (h : qrr_ n a0 a1 = some r) : G_treehasq1 a0 a1 r := by
 unfold qrr_ at h
 by_cases hc1 : a1 ≥ (0 : Int)
 ·rw [if_pos hc1] at h
  have k0 := fun {A L l} (k : PL A L l) => zz 4 (xdT hc1) <|
   k
  by_cases hc2 : a1 < (((a0).l.length : Nat) : Int)
  ·rw [if_pos hc2] at h
   obtain ⟨c3_, hc3, h⟩ := oB h
   have k1 := fun {A L l} (k : PL A L l) => zz 9 (xdT hc2) <|
    yy 13 (.call (qnl_ a0 c3_ [] [])) <|
    ww (qiw_ n a0 c3_ hc3) <|
    k
   by_cases hc4 : c3_ = (0 : Int)
   ·rw [if_pos hc4] at h
    obtain rfl := oI h
    exact runF2 hm (kW [4] [] 0 0) (k0 <|
     k1 <|
     zz 14 (xeT hc4) <|
     ee) (by kernel_rfl)
   ·rw [if_neg hc4] at h
    obtain rfl := oI h
    exact runF2 hm (kW [4] [] 0 0) (k0 <|
     k1 <|
     zz 14 (xeF hc4) <|
     ee) (by kernel_rfl)
  ·rw [if_neg hc2] at h
   obtain rfl := oI h
   exact runF2 hm (kW [4] [] 0 0) (k0 <|
    zz 9 (xdF hc2) <|
    ee) (by kernel_rfl)
 ·rw [if_neg hc1] at h
  obtain rfl := oI h
  exact runF2 hm (kW [4] [] 0 0) (zz 4 (xdF hc1) <|
   ee) (by kernel_rfl)

def V_treeSub1q1 (a0 : Int) (a1 : Int) (r : Unit) : Value := match r with
 | _ => (i6 (w64 (a0 - a1)))
def R_treeSub1q1 (a0 : Int) (a1 : Int) (r : Unit) : AH := match r with
 | _ => ⟨sB [], 1, 1⟩
abbrev G_treeSub1q1 (a0 : Int) (a1 : Int) (r : Unit) : Prop := Gv P (.func 44) [(i6 a0), (pN 0 0)] ⟨sB [(0, (cB [(i6 a1)] 3))], 1, 1⟩ (V_treeSub1q1 a0 a1 r) (R_treeSub1q1 a0 a1 r)
def qx9_ (n : Nat) (a0 : Int) (a1 : Int) : Option (Unit) :=
 some ()
theorem m_treeSub1q1_ok (n : Nat) (a0 : Int) (a1 : Int) (r : Unit) (h : qx9_ n a0 a1 = some r) : G_treeSub1q1 a0 a1 r := by
 unfold qx9_ at h
 obtain rfl := oI h
 exact runF2 hm (kW [3] [] 1 1) (ee) (by kernel_rfl)

def qya_ (a0 : Int) (a1 : List Int) (r : Int) : Value := match r with
 | o0 => (i6 o0)
def qyb_ (a0 : Int) (a1 : List Int) (r : Int) : AH := match r with
 | o0 => ⟨sB [], 1, 1⟩
abbrev G_treeSub1q2 (a0 : Int) (a1 : List Int) (r : Int) : Prop := Gv P (.func 44) [(i6 a0), (pN 0 0)] ⟨sB [(0, (cB (iv a1) 3))], 1, 1⟩ (qya_ a0 a1 r) (qyb_ a0 a1 r)
abbrev C_treeSub1q2 (a0 : Int) (a1 : List Int) (r : Int) (ins outs : BL) : CallA := ⟨1, ins, qya_ a0 a1 r, qyb_ a0 a1 r, outs⟩
def qmn_ (n : Nat) (a0 : Int) (a1 : List Int) : Option (Int) :=
 if 0 < (a1).length then
  ((some ((a1).getD 0 0))).bind fun c2_ =>
  some (w64 (a0 - c2_))
 else none
theorem qys_ (n : Nat) (a0 : Int) (a1 : List Int) (r : Int) (h : qmn_ n a0 a1 = some r) : G_treeSub1q2 a0 a1 r := by
 unfold qmn_ at h
 obtain ⟨hc1, h⟩ := gd h
 obtain ⟨c2_, hc2, h⟩ := oB h
 obtain rfl := oI h
 exact runF2 hm (kW [3] [] 1 1) (zz 4 (xivN hc2 (hc1)) <|
  ee) (by kernel_rfl)

def qot_ (a0 : NL) (a1 : Int) : List Value := [(nlV a0), (Value.func (.func 44) #[] #[(pN 0 0)])]
def qou_ (a0 : NL) (a1 : Int) : AH := ⟨sB [(0, (cB [(i6 a1)] 3))], 1, 1⟩
def qov_ (a0 : NL) (a1 : Int) (r : NL) : Value := match r with
 | o0 => (nlV o0)
def qjt_ (a0 : NL) (a1 : Int) (r : NL) : AH := match r with
 | o0 => ⟨sB [], 1, 1⟩
abbrev qux_ (a0 : NL) (a1 : Int) (r : NL) : Prop := Gv P (.func 60) (qot_ a0 a1) (qou_ a0 a1) (qov_ a0 a1 r) (qjt_ a0 a1 r)
abbrev quy_ (a0 : NL) (a1 : Int) (r : NL) (ins outs : BL) : CallA := ⟨1, ins, qov_ a0 a1 r, qjt_ a0 a1 r, outs⟩
def qfw_ (x1_0 : List Int) (x1_2 : Nat) (x1_3 : NL) (x1_4 : Int) (st : List Int × Int) : XSt := match st with
 | (x1_1, x1_5) => (sT 29 [(1, (Value.func (.func 44) #[] #[(pN 0 0)])), (5, (sN 1 0 x1_2 x1_2)), (14, (nlV x1_3)), (15, (i6 x1_4)), (16, (i6 x1_5))], [], ⟨sB [(0, (cB (iv x1_0) 3)), (1, (cB (iv x1_1) 3))], 2, 1⟩)
def qd8_ (x1_0 : List Int) (x1_2 : Nat) (x1_3 : NL) (x1_4 : Int) (r : List Int) : Ex × XSt := match r with
 | z1_0 => (.exit 0, (sT 29 [(5, (sN 1 0 x1_2 x1_2))], [], ⟨sB [(0, (cB (iv x1_0) 3)), (1, (cB (iv z1_0) 3))], 2, 1⟩))
abbrev qs5_ (rnd : Option Nat) (x1_0 : List Int) (x1_2 : Nat) (x1_3 : NL) (x1_4 : Int) (st : List Int × Int) (c : Ex × XSt) : Prop := CG P rnd (fnN P 60) 1 (qw_ P 60 [false, false, true, false, true, true, true]) (qfw_ x1_0 x1_2 x1_3 x1_4 st) c
abbrev qmo_ (rd : Option Nat) (x1_0 : List Int) (x1_2 : Nat) (x1_3 : NL) (x1_4 : Int) (st : List Int × Int) (r : List Int) : Prop := CG P rd (fnN P 60) 1 (qw_ P 60 [false, true, false, true, true, true]) (qfw_ x1_0 x1_2 x1_3 x1_4 st) (qd8_ x1_0 x1_2 x1_3 x1_4 r)
def qcf_ (n : Nat) (x1_0 : List Int) (x1_2 : Nat) (x1_3 : NL) (x1_4 : Int) (st : List Int × Int) : Option ((List Int × Int) ⊕ (List Int)) := match st with
 | (x1_1, x1_5) =>
  if x1_5 < x1_4 then
   if 0 ≤ x1_5 ∧ x1_5 < (((x1_3).l.length : Nat) : Int) then
    if (x1_5).toNat < ((x1_3).l).length then
     ((some (((x1_3).l).getD (x1_5).toNat 0))).bind fun y1_4_ =>
     (qmn_ n y1_4_ x1_0).bind fun y1_5_ =>
     if 0 ≤ x1_5 ∧ x1_5 < ((x1_2 : Nat) : Int) then
      if (x1_5).toNat < (x1_1).length then
       some (.inl (((x1_1).set (x1_5).toNat y1_5_), (w64 (x1_5 + (1 : Int)))))
      else none
     else none
    else none
   else none
  else
   some (.inr x1_1)
def qh0_ (n : Nat) (x1_0 : List Int) (x1_2 : Nat) (x1_3 : NL) (x1_4 : Int) (st : List Int × Int) : Option (List Int) := iterM (qcf_ n x1_0 x1_2 x1_3 x1_4) n st
theorem qmp_ (n : Nat) {rnd : Option Nat} (x1_0 : List Int) (x1_2 : Nat) (x1_3 : NL) (x1_4 : Int) (st : List Int × Int) (o : (List Int × Int) ⊕ (List Int)) (h : qcf_ n x1_0 x1_2 x1_3 x1_4 st = some o) : qs5_ rnd x1_0 x1_2 x1_3 x1_4 st (Sum.elim (fun s => (.normal, qfw_ x1_0 x1_2 x1_3 x1_4 s)) (fun r => qd8_ x1_0 x1_2 x1_3 x1_4 r) o) := by
 obtain ⟨x1_1, x1_5⟩ := st
 unfold qcf_ at h
 dsimp only at h
 by_cases hy1_1 : x1_5 < x1_4
 ·rw [if_pos hy1_1] at h
  obtain ⟨hy1_2, h⟩ := gd h
  obtain ⟨hy1_3, h⟩ := gd h
  obtain ⟨y1_4_, hy1_4, h⟩ := oB h
  obtain ⟨y1_5_, hy1_5, h⟩ := oB h
  obtain ⟨hy1_6, h⟩ := gd h
  obtain ⟨hy1_7, h⟩ := gd h
  obtain rfl := oI h
  exact runC2 hm (kW [1, 5, 14, 15, 16] [(0, 0, true), (1, 1, true)] 2 1) (zz 1 (xdT hy1_1) <|
   zz 8 (xk8 (Nat.add (x1_3).num 64) (x1_3).off (x1_3).cap hy1_2) <|
   zz 9 (nk9 hy1_4 hy1_3) <|
   yy 16 (.call (C_treeSub1q2 y1_4_ x1_0 y1_5_ [(0, 0, true)] [])) <|
   ww (qys_ n y1_4_ x1_0 y1_5_ hy1_5) <|
   ww (qdb_ x1_0 3) <|
   zz 17 (xk17 1 x1_2 hy1_6) <|
   yy 18 (.sto (layT (iv ((x1_1).set (x1_5).toNat y1_5_)))) <|
   ww (p := ∃ old, rdT (layT (iv x1_1)) 1 (x1_5).toNat = some old) (Exists.elim (iv_st (x1_1) ((x1_5).toNat) (y1_5_) hy1_7) fun o h => ⟨o, h.1⟩) <|
   ww (p := layL [(i6 y1_5_)] (x1_5).toNat (layT (iv x1_1)) = layT (iv ((x1_1).set (x1_5).toNat y1_5_))) (Exists.elim (iv_st (x1_1) ((x1_5).toNat) (y1_5_) hy1_7) fun o h => h.2) <|
   ww (qdb_ x1_0 3) <|
   ww (qdb_ ((x1_1).set (x1_5).toNat y1_5_) 3) <|
   ee) (by kernel_rfl)
 ·rw [if_neg hy1_1] at h
  obtain rfl := oI h
  exact runC2 hm (kW [5] [(0, 0, true), (1, 1, true)] 2 1) (zz 1 (xdF hy1_1) <|
   ww (qdb_ x1_0 3) <|
   ww (qdb_ x1_1 3) <|
   ee) (by kernel_rfl)
theorem qqa_ (n : Nat) {rnd : Option Nat} (x1_0 : List Int) (x1_2 : Nat) (x1_3 : NL) (x1_4 : Int) (st : List Int × Int) (r : List Int) (h : qh0_ n x1_0 x1_2 x1_3 x1_4 st = some r) : qmo_ rnd x1_0 x1_2 x1_3 x1_4 st r :=
 CG.iter (b := qw_ P 60 [false, false, true, false, true, true, true]) (by kernel_rfl) (body := qcf_ n x1_0 x1_2 x1_3 x1_4) (S := qfw_ x1_0 x1_2 x1_3 x1_4) (X := qd8_ x1_0 x1_2 x1_3 x1_4)
  (fun s s' h => qmp_ n x1_0 x1_2 x1_3 x1_4 s (.inl s') h)
  (fun s r h => qmp_ n x1_0 x1_2 x1_3 x1_4 s (.inr r) h)
  (fun r => by intro hx; cases hx) h
def qfl_ (n : Nat) (a0 : NL) (a1 : Int) : Option (NL) :=
 if (((a0).l.length : Nat) : Int) = (0 : Int) then
  some nl0
 else
  if 0 ≤ (((a0).l.length : Nat) : Int) then
   if ((((a0).l.length : Nat) : Int)).toNat * 8 ≤ 140737488355328 then
    (qh0_ n [a1] (((((a0).l.length : Nat) : Int)).toNat) a0 (((a0).l.length : Nat) : Int) ((List.replicate ((((a0).l.length : Nat) : Int)).toNat (0 : Int)), 0)).bind fun c4_ =>
    if (((((a0).l.length : Nat) : Int)).toNat) = c4_.length then
     if hc6 : c4_.length ≤ 140737488355328 then
      some (frzL c4_ hc6)
     else none
    else none
   else none
  else none
theorem qru_ (n : Nat) (a0 : NL) (a1 : Int) (r : NL) (h : qfl_ n a0 a1 = some r) : qux_ a0 a1 r := by
 unfold qfl_ at h
 by_cases hc1 : (((a0).l.length : Nat) : Int) = (0 : Int)
 ·rw [if_pos hc1] at h
  obtain rfl := oI h
  exact runF2 hm ⟨[4], [], 1, 1, [], true, [], [], [4]⟩ (zz 6 (xeT hc1) <|
   ee) (by kernel_rfl)
 ·rw [if_neg hc1] at h
  obtain ⟨hc2, h⟩ := gd h
  obtain ⟨hc3, h⟩ := gd h
  obtain ⟨c4_, hc4, h⟩ := oB h
  obtain ⟨hc5, h⟩ := gd h
  obtain ⟨hc6, h⟩ := gdD h
  obtain rfl := oI h
  have k0_ : Gv P (.func 60) (qot_ a0 a1) (qou_ a0 a1) (Value.slice (some ⟨Nat.add (2 * cod c4_ + 1) 64, 0, some 1⟩) (((((a0).l.length : Nat) : Int)).toNat) (Nat.add big (((((a0).l.length : Nat) : Int)).toNat))) (qjt_ a0 a1 (frzL c4_ hc6)) := runF2 hm ⟨[4], [], 1, 1, [(1, Nat.add (2 * cod c4_ + 1) 64)], true, [], [], []⟩ (zz 6 (xeF hc1) <|
  yy 11 (.mk ((((a0).l.length : Nat) : Int)).toNat (iv (List.replicate ((((a0).l.length : Nat) : Int)).toNat (0 : Int)))) <|
  ww (p := natOf (i6 (((a0).l.length : Nat) : Int)) = some ((((a0).l.length : Nat) : Int)).toNat) (ql0_ hc2) <|
  ww (p := natOf (i6 (((a0).l.length : Nat) : Int)) = some ((((a0).l.length : Nat) : Int)).toNat) (ql0_ hc2) <|
  ww (p := fits ((((a0).l.length : Nat) : Int)).toNat 8 = true) (qmb_ hc3 (by omega)) <|
  ww (p := isZ8 [(i6 (0 : Int))] = false) (rfl) <|
  ww (p := reps [(i6 (0 : Int))] ((((a0).l.length : Nat) : Int)).toNat = (iv (List.replicate ((((a0).l.length : Nat) : Int)).toNat (0 : Int)))) (reps_iv _) <|
  ww (p := qmo_ none [a1] (((((a0).l.length : Nat) : Int)).toNat) a0 (((a0).l.length : Nat) : Int) ((List.replicate ((((a0).l.length : Nat) : Int)).toNat (0 : Int)), 0) c4_) (qqa_ n [a1] (((((a0).l.length : Nat) : Int)).toNat) a0 (((a0).l.length : Nat) : Int) ((List.replicate ((((a0).l.length : Nat) : Int)).toNat (0 : Int)), 0) c4_ hc4) <|
  ww (qdb_ (List.replicate ((((a0).l.length : Nat) : Int)).toNat (0 : Int)) 3) <|
  ll 19 ⟨(kW [1, 5, 14, 15, 16] [(0, 0, false), (1, 1, true)] 2 1), (qd8_ [a1] (((((a0).l.length : Nat) : Int)).toNat) a0 (((a0).l.length : Nat) : Int) c4_).1, (qd8_ [a1] (((((a0).l.length : Nat) : Int)).toNat) a0 (((a0).l.length : Nat) : Int) c4_).2⟩ <|
  ww (frz_ok qee_ qiv_ c4_) <|
  ee) (by kernel_rfl)
  have k1_ := gvLen (fn := fun m_ => (Value.slice (some ⟨Nat.add (2 * cod c4_ + 1) 64, 0, some 1⟩) m_ (Nat.add big m_))) hc5 k0_
  exact k1_

def qvp_ (a0 : Int) (a1 : Int) (a2 : Int) (a3 : Int) (a4 : Int) (a5 : Int) (a6 : NL) (a7 : Int) (a8 : Int) (r : NL) : Value := match r with
 | o0 => (Value.agg #[(i6 a0), (i6 a1), (i6 a2), (i6 a3), (i6 a4), (i6 a5), (nlV o0), (Value.int .u64 a7)])
def qvq_ (a0 : Int) (a1 : Int) (a2 : Int) (a3 : Int) (a4 : Int) (a5 : Int) (a6 : NL) (a7 : Int) (a8 : Int) (r : NL) : AH := match r with
 | o0 => ⟨sB [(1, (cB [(i6 a0), (i6 a1), (i6 a2), (i6 a3), (i6 a4), (i6 a5), (nlV o0), (Value.int .u64 a7)] 37))], 2, 1⟩
abbrev G_treemovedq1 (a0 : Int) (a1 : Int) (a2 : Int) (a3 : Int) (a4 : Int) (a5 : Int) (a6 : NL) (a7 : Int) (a8 : Int) (r : NL) : Prop := Gv P (.func 43) [(Value.agg #[(i6 a0), (i6 a1), (i6 a2), (i6 a3), (i6 a4), (i6 a5), (nlV a6), (Value.int .u64 a7)]), (Value.func (.func 44) #[] #[(pN 0 0)])] ⟨sB [(0, (cB [(i6 a8)] 3))], 1, 1⟩ (qvp_ a0 a1 a2 a3 a4 a5 a6 a7 a8 r) (qvq_ a0 a1 a2 a3 a4 a5 a6 a7 a8 r)
abbrev qvr_ (a0 : Int) (a1 : Int) (a2 : Int) (a3 : Int) (a4 : Int) (a5 : Int) (a6 : NL) (a7 : Int) (a8 : Int) (r : NL) (ins outs : BL) : CallA := ⟨1, ins, qvp_ a0 a1 a2 a3 a4 a5 a6 a7 a8 r, qvq_ a0 a1 a2 a3 a4 a5 a6 a7 a8 r, outs⟩
def qig_ (n : Nat) (a0 : Int) (a1 : Int) (a2 : Int) (a3 : Int) (a4 : Int) (a5 : Int) (a6 : NL) (a7 : Int) (a8 : Int) : Option (NL) :=
 (qfl_ n a6 a8).bind fun c1_ =>
 some c1_
theorem qq5_ (n : Nat) (a0 : Int) (a1 : Int) (a2 : Int) (a3 : Int) (a4 : Int) (a5 : Int) (a6 : NL) (a7 : Int) (a8 : Int) (r : NL) (h : qig_ n a0 a1 a2 a3 a4 a5 a6 a7 a8 = some r) : G_treemovedq1 a0 a1 a2 a3 a4 a5 a6 a7 a8 r := by
 unfold qig_ at h
 obtain ⟨c1_, hc1, h⟩ := oB h
 obtain rfl := oI h
 exact runF2 hm (kW [4] [(1, 2, false)] 2 1) (yy 7 (.call (quy_ a6 a8 c1_ [(0, 0, false)] [])) <|
  ww (qru_ n a6 a8 c1_ hc1) <|
  ee) (by kernel_rfl)

def qow_ (a0 : W8) (a1 : Int) (a2 : W8) (a3 : Int) (a4 : Int) (r : R8) : Value := match r with
 | (o0, o1, o2, o3, o4, o5, o6, o7) => (bO true)
def qox_ (a0 : W8) (a1 : Int) (a2 : W8) (a3 : Int) (a4 : Int) (r : R8) : AH := match r with
 | (o0, o1, o2, o3, o4, o5, o6, o7) => ⟨sB [(0, (some (rblk P 21 [false, true, false, true, true, true] .ready none [(2, (pN 2 0)), (3, (pN 3 0)), (5, (pN 4 0)), (13, (Value.func (.func 56) #[] #[(pN 5 0), (pN 6 0)]))] 1))), (1, (some (.marks true))), (2, (cB [(wlV a0)] 22)), (3, (cB [(i6 a1)] 3)), (4, (cB [(sN 7 0 1 (Nat.add big 8))] 22)), (5, (cB [(wlV a2)] 22)), (6, (cB [(i6 a3)] 3)), (7, (cB [(i6 o0), (i6 o1), (i6 o2), (i6 o3), (i6 o4), (i6 o5), (nlV o6), (Value.int .u64 o7)] 37))], 8, 0⟩
abbrev quz_ (a0 : W8) (a1 : Int) (a2 : W8) (a3 : Int) (a4 : Int) (r : R8) : Prop := Gv P (.yield 0) [(i6 a4)] ⟨sB [(0, (some (rblk P 21 [false, true, false, true, true, true] .ready none [(2, (pN 2 0)), (3, (pN 3 0)), (5, (pN 4 0)), (13, (Value.func (.func 56) #[] #[(pN 5 0), (pN 6 0)]))] 1))), (1, (some (.marks true))), (2, (cB [(wlV a0)] 22)), (3, (cB [(i6 a1)] 3)), (4, (cB [(Value.slice none 0 0)] 22)), (5, (cB [(wlV a2)] 22)), (6, (cB [(i6 a3)] 3))], 7, 7⟩ (qow_ a0 a1 a2 a3 a4 r) (qox_ a0 a1 a2 a3 a4 r)
abbrev qu0_ (a0 : W8) (a1 : Int) (a2 : W8) (a3 : Int) (a4 : Int) (r : R8) (ins outs : BL) : CallA := ⟨7, ins, qow_ a0 a1 a2 a3 a4 r, qox_ a0 a1 a2 a3 a4 r, outs⟩
def qfm_ (n : Nat) (a0 : W8) (a1 : Int) (a2 : W8) (a3 : Int) (a4 : Int) : Option R8 :=
 if 0 ≤ a4 ∧ a4 < (((a0).l.length : Nat) : Int) then
  ((some (((a0).l).getD (a4).toNat (0, 0, 0, 0, 0, 0, nl0, 0)))).bind fun c2_ =>
  (qig_ n (c2_.1) (c2_.2.1) (c2_.2.2.1) (c2_.2.2.2.1) (c2_.2.2.2.2.1) (c2_.2.2.2.2.2.1) (c2_.2.2.2.2.2.2.1) (c2_.2.2.2.2.2.2.2) a1).bind fun c3_ =>
  some ((c2_.1), (c2_.2.1), (c2_.2.2.1), (c2_.2.2.2.1), (c2_.2.2.2.2.1), (c2_.2.2.2.2.2.1), c3_, (c2_.2.2.2.2.2.2.2))
 else none
theorem qrv_ (n : Nat) (a0 : W8) (a1 : Int) (a2 : W8) (a3 : Int) (a4 : Int) (r : R8) (h : qfm_ n a0 a1 a2 a3 a4 = some r) : quz_ a0 a1 a2 a3 a4 r := by
 unfold qfm_ at h
 obtain ⟨hc1, h⟩ := gd h
 obtain ⟨c2_, hc2, h⟩ := oB h
 obtain ⟨c3_, hc3, h⟩ := oB h
 obtain rfl := oI h
 exact runY2 hm (kW [] [(0, 0, false), (1, 1, false), (2, 2, false), (3, 3, false), (4, 4, false), (5, 5, false), (6, 6, false), (7, 16, false)] 8 0) (ee) (zz 4 (xk1 (a0).num (a0).off (a0).cap hc1) <|
  zz 5 (lk2 hc2 (qba_ hc1)) <|
  yy 7 (.call (qvr_ (c2_.1) (c2_.2.1) (c2_.2.2.1) (c2_.2.2.2.1) (c2_.2.2.2.2.1) (c2_.2.2.2.2.2.1) (c2_.2.2.2.2.2.2.1) (c2_.2.2.2.2.2.2.2) a1 c3_ [(0, 3, false)] [(15, 1, false)])) <|
  ww (qq5_ n (c2_.1) (c2_.2.1) (c2_.2.2.1) (c2_.2.2.2.1) (c2_.2.2.2.2.1) (c2_.2.2.2.2.2.1) (c2_.2.2.2.2.2.2.1) (c2_.2.2.2.2.2.2.2) a1 c3_ hc3) <|
  ee) (by kernel_rfl)

def qoy_ (a0 : W8) (a1 : Int) (a2 : List R8) (a3 : W8) (a4 : Int) (a5 : Int) (r : List R8) : Value := match r with
 | o0 => (bO true)
def qoz_ (a0 : W8) (a1 : Int) (a2 : List R8) (a3 : W8) (a4 : Int) (a5 : Int) (r : List R8) : AH := match r with
 | o0 => ⟨sB [(0, (some (rblk P 21 [false, true, false, true, true, true] .ready none [(2, (pN 2 0)), (3, (pN 3 0)), (5, (pN 4 0)), (13, (Value.func (.func 56) #[] #[(pN 6 0), (pN 7 0)]))] 1))), (1, (some (.marks true))), (2, (cB [(wlV a0)] 22)), (3, (cB [(i6 a1)] 3)), (4, (cB [(sN 8 0 (o0).length (Nat.add big 8))] 22)), (6, (cB [(wlV a3)] 22)), (7, (cB [(i6 a4)] 3)), (8, (cB (rows rw_iiiiiiLu o0) 37))], 9, 0⟩
abbrev qu1_ (a0 : W8) (a1 : Int) (a2 : List R8) (a3 : W8) (a4 : Int) (a5 : Int) (r : List R8) : Prop := Gv P (.yield 0) [(i6 a5)] ⟨sB [(0, (some (rblk P 21 [false, true, false, true, true, true] .ready none [(2, (pN 2 0)), (3, (pN 3 0)), (5, (pN 4 0)), (13, (Value.func (.func 56) #[] #[(pN 6 0), (pN 7 0)]))] 1))), (1, (some (.marks true))), (2, (cB [(wlV a0)] 22)), (3, (cB [(i6 a1)] 3)), (4, (cB [(sN 5 0 (a2).length (Nat.add big 8))] 22)), (5, (cB (rows rw_iiiiiiLu a2) 37)), (6, (cB [(wlV a3)] 22)), (7, (cB [(i6 a4)] 3))], 8, 8⟩ (qoy_ a0 a1 a2 a3 a4 a5 r) (qoz_ a0 a1 a2 a3 a4 a5 r)
abbrev qu2_ (a0 : W8) (a1 : Int) (a2 : List R8) (a3 : W8) (a4 : Int) (a5 : Int) (r : List R8) (ins outs : BL) : CallA := ⟨8, ins, qoy_ a0 a1 a2 a3 a4 a5 r, qoz_ a0 a1 a2 a3 a4 a5 r, outs⟩
def qfn_ (n : Nat) (a0 : W8) (a1 : Int) (a2 : List R8) (a3 : W8) (a4 : Int) (a5 : Int) : Option (List R8) :=
 if 0 ≤ a5 ∧ a5 < (((a0).l.length : Nat) : Int) then
  ((some (((a0).l).getD (a5).toNat (0, 0, 0, 0, 0, 0, nl0, 0)))).bind fun c2_ =>
  (qig_ n (c2_.1) (c2_.2.1) (c2_.2.2.1) (c2_.2.2.2.1) (c2_.2.2.2.2.1) (c2_.2.2.2.2.2.1) (c2_.2.2.2.2.2.2.1) (c2_.2.2.2.2.2.2.2) a1).bind fun c3_ =>
  if ((a2).length + 1) * 80 ≤ 140737488355328 then
   some (a2 ++ [((c2_.1), (c2_.2.1), (c2_.2.2.1), (c2_.2.2.2.1), (c2_.2.2.2.2.1), (c2_.2.2.2.2.2.1), c3_, (c2_.2.2.2.2.2.2.2))])
  else none
 else none
theorem qrw_ (n : Nat) (a0 : W8) (a1 : Int) (a2 : List R8) (a3 : W8) (a4 : Int) (a5 : Int) (r : List R8) (h : qfn_ n a0 a1 a2 a3 a4 a5 = some r) : qu1_ a0 a1 a2 a3 a4 a5 r := by
 unfold qfn_ at h
 obtain ⟨hc1, h⟩ := gd h
 obtain ⟨c2_, hc2, h⟩ := oB h
 obtain ⟨c3_, hc3, h⟩ := oB h
 obtain ⟨hc4, h⟩ := gd h
 obtain rfl := oI h
 exact runY2 hm (kW [] [(0, 0, false), (1, 1, false), (2, 2, false), (3, 3, false), (4, 4, false), (6, 6, false), (7, 7, false), (8, 17, true)] 9 0) (ee) (zz 4 (xk1 (a0).num (a0).off (a0).cap hc1) <|
  zz 5 (lk2 hc2 (qba_ hc1)) <|
  yy 7 (.call (qvr_ (c2_.1) (c2_.2.1) (c2_.2.2.1) (c2_.2.2.2.1) (c2_.2.2.2.2.1) (c2_.2.2.2.2.2.1) (c2_.2.2.2.2.2.2.1) (c2_.2.2.2.2.2.2.2) a1 c3_ [(0, 3, false)] [(16, 1, false)])) <|
  ww (qq5_ n (c2_.1) (c2_.2.1) (c2_.2.2.1) (c2_.2.2.2.1) (c2_.2.2.2.2.1) (c2_.2.2.2.2.2.1) (c2_.2.2.2.2.2.2.1) (c2_.2.2.2.2.2.2.2) a1 c3_ hc3) <|
  yy 9 (.app ⟨none, rows rw_iiiiiiLu a2, (rows rw_iiiiiiLu (a2 ++ [((c2_.1), (c2_.2.1), (c2_.2.2.1), (c2_.2.2.2.1), (c2_.2.2.2.2.1), (c2_.2.2.2.2.2.1), c3_, (c2_.2.2.2.2.2.2.2))])), ((a2 ++ [((c2_.1), (c2_.2.1), (c2_.2.2.1), (c2_.2.2.2.1), (c2_.2.2.2.2.1), (c2_.2.2.2.2.2.1), c3_, (c2_.2.2.2.2.2.2.2))])).length, false⟩) <|
  ww (p := 0 < 1) ((by decide)) <|
  ww (p := rdT (layT (rows rw_iiiiiiLu a2)) (Nat.mul (a2).length 8) 0 = some (rows rw_iiiiiiLu a2)) (rows_rd rwf_iiiiiiLu _ _ rfl) <|
  ww (p := fits (Nat.add (a2).length 1) 80 = true) (qmb_ hc4 (by have := hc4; show (_ : Nat) + _ ≤ _; omega)) <|
  ww (p := qbc_ [(i6 (c2_.1)), (i6 (c2_.2.1)), (i6 (c2_.2.2.1)), (i6 (c2_.2.2.2.1)), (i6 (c2_.2.2.2.2.1)), (i6 (c2_.2.2.2.2.2.1)), (nlV c3_), (Value.int .u64 (c2_.2.2.2.2.2.2.2))] = true) (rfl) <|
  ww (p := qbc_ (rows rw_iiiiiiLu a2) = true) (qmc_ rwf_iiiiiiLu _) <|
  ww (p := rows rw_iiiiiiLu a2 ++ [(i6 (c2_.1)), (i6 (c2_.2.1)), (i6 (c2_.2.2.1)), (i6 (c2_.2.2.2.1)), (i6 (c2_.2.2.2.2.1)), (i6 (c2_.2.2.2.2.2.1)), (nlV c3_), (Value.int .u64 (c2_.2.2.2.2.2.2.2))] = (rows rw_iiiiiiLu (a2 ++ [((c2_.1), (c2_.2.1), (c2_.2.2.1), (c2_.2.2.2.1), (c2_.2.2.2.2.1), (c2_.2.2.2.2.2.1), c3_, (c2_.2.2.2.2.2.2.2))]))) (qs2_ rw_iiiiiiLu a2 [((c2_.1), (c2_.2.1), (c2_.2.2.1), (c2_.2.2.2.1), (c2_.2.2.2.2.1), (c2_.2.2.2.2.2.1), c3_, (c2_.2.2.2.2.2.2.2))]) <|
  ww (p := Nat.add (a2).length 1 = ((a2 ++ [((c2_.1), (c2_.2.1), (c2_.2.2.1), (c2_.2.2.2.1), (c2_.2.2.2.2.1), (c2_.2.2.2.2.2.1), c3_, (c2_.2.2.2.2.2.2.2))])).length) (by simp) <|
  ww (qb_ rwf_iiiiiiLu (a2 ++ [((c2_.1), (c2_.2.1), (c2_.2.2.1), (c2_.2.2.2.1), (c2_.2.2.2.2.1), (c2_.2.2.2.2.2.1), c3_, (c2_.2.2.2.2.2.2.2))]) 37) <|
  ee) (by kernel_rfl)

def qkd_ (a0 : W8) (a1 : Int) (a2 : W8) (a3 : Int) (a4 : List R8) (a5 : W8) (a6 : Int) : List Value := [(wlV a0), (i6 a1), (Value.func (.yield 0) #[] #[])]
def qke_ (a0 : W8) (a1 : Int) (a2 : W8) (a3 : Int) (a4 : List R8) (a5 : W8) (a6 : Int) : AH := ⟨sB [(0, (some (rblk P 21 [false, true, false, true, true, true] .ready none [(2, (pN 2 0)), (3, (pN 3 0)), (5, (pN 4 0)), (13, (Value.func (.func 56) #[] #[(pN 6 0), (pN 7 0)]))] 1))), (1, (some (.marks true))), (2, (cB [(wlV a2)] 22)), (3, (cB [(i6 a3)] 3)), (4, (cB [(sN 5 0 (a4).length (Nat.add big 8))] 22)), (5, (cB (rows rw_iiiiiiLu a4) 37)), (6, (cB [(wlV a5)] 22)), (7, (cB [(i6 a6)] 3))], 8, 8⟩
def qih_ (a0 : W8) (a1 : Int) (a2 : W8) (a3 : Int) (a4 : List R8) (a5 : W8) (a6 : Int) (r : List R8) : Value := match r with
 | o0 => (bO true)
def qii_ (a0 : W8) (a1 : Int) (a2 : W8) (a3 : Int) (a4 : List R8) (a5 : W8) (a6 : Int) (r : List R8) : AH := match r with
 | o0 => ⟨sB [(0, (some (rblk P 21 [false, true, false, true, true, true] .ready none [(2, (pN 2 0)), (3, (pN 3 0)), (5, (pN 4 0)), (13, (Value.func (.func 56) #[] #[(pN 6 0), (pN 7 0)]))] 1))), (1, (some (.marks true))), (2, (cB [(wlV a2)] 22)), (3, (cB [(i6 a3)] 3)), (4, (cB [(sN 8 0 (o0).length (Nat.add big 8))] 22)), (6, (cB [(wlV a5)] 22)), (7, (cB [(i6 a6)] 3)), (8, (cB (rows rw_iiiiiiLu o0) 37))], 9, 0⟩
abbrev G_treevisitq3 (a0 : W8) (a1 : Int) (a2 : W8) (a3 : Int) (a4 : List R8) (a5 : W8) (a6 : Int) (r : List R8) : Prop := Gv P (.func 57) (qkd_ a0 a1 a2 a3 a4 a5 a6) (qke_ a0 a1 a2 a3 a4 a5 a6) (qih_ a0 a1 a2 a3 a4 a5 a6 r) (qii_ a0 a1 a2 a3 a4 a5 a6 r)
abbrev qvs_ (a0 : W8) (a1 : Int) (a2 : W8) (a3 : Int) (a4 : List R8) (a5 : W8) (a6 : Int) (r : List R8) (ins outs : BL) : CallA := ⟨8, ins, qih_ a0 a1 a2 a3 a4 a5 a6 r, qii_ a0 a1 a2 a3 a4 a5 a6 r, outs⟩
def qj0_ (x1_0 : W8) (x1_1 : Int) (x1_3 : W8) (x1_4 : Int) (x1_5 : W8) (x1_6 : NL) (x1_7 : Int) (st : List R8 × Int) : XSt := match st with
 | (x1_2, x1_8) => (sT 29 [(0, (wlV x1_5)), (2, (Value.func (.yield 0) #[] #[])), (17, (nlV x1_6)), (18, (i6 x1_7)), (19, (i6 x1_8))], [], ⟨sB [(0, (some (rblk P 21 [false, true, false, true, true, true] .ready none [(2, (pN 2 0)), (3, (pN 3 0)), (5, (pN 4 0)), (13, (Value.func (.func 56) #[] #[(pN 6 0), (pN 7 0)]))] 1))), (1, (some (.marks true))), (2, (cB [(wlV x1_0)] 22)), (3, (cB [(i6 x1_1)] 3)), (4, (cB [(sN 8 0 (x1_2).length (Nat.add big 8))] 22)), (6, (cB [(wlV x1_3)] 22)), (7, (cB [(i6 x1_4)] 3)), (8, (cB (rows rw_iiiiiiLu x1_2) 37))], 9, 0⟩)
def qhl_ (x1_0 : W8) (x1_1 : Int) (x1_3 : W8) (x1_4 : Int) (x1_5 : W8) (x1_6 : NL) (x1_7 : Int) (r : List R8) : Ex × XSt := match r with
 | z1_0 => (.exit 0, (sT 29 [], [], ⟨sB [(0, (some (rblk P 21 [false, true, false, true, true, true] .ready none [(2, (pN 2 0)), (3, (pN 3 0)), (5, (pN 4 0)), (13, (Value.func (.func 56) #[] #[(pN 6 0), (pN 7 0)]))] 1))), (1, (some (.marks true))), (2, (cB [(wlV x1_0)] 22)), (3, (cB [(i6 x1_1)] 3)), (4, (cB [(sN 8 0 (z1_0).length (Nat.add big 8))] 22)), (6, (cB [(wlV x1_3)] 22)), (7, (cB [(i6 x1_4)] 3)), (8, (cB (rows rw_iiiiiiLu z1_0) 37))], 9, 0⟩))
abbrev qyt_ (rnd : Option Nat) (x1_0 : W8) (x1_1 : Int) (x1_3 : W8) (x1_4 : Int) (x1_5 : W8) (x1_6 : NL) (x1_7 : Int) (st : List R8 × Int) (c : Ex × XSt) : Prop := CG P rnd (fnN P 57) 8 (qw_ P 57 [false, false, true, false, true, true]) (qj0_ x1_0 x1_1 x1_3 x1_4 x1_5 x1_6 x1_7 st) c
abbrev qsl_ (rd : Option Nat) (x1_0 : W8) (x1_1 : Int) (x1_3 : W8) (x1_4 : Int) (x1_5 : W8) (x1_6 : NL) (x1_7 : Int) (st : List R8 × Int) (r : List R8) : Prop := CG P rd (fnN P 57) 8 (qw_ P 57 [false, true, false, true, true]) (qj0_ x1_0 x1_1 x1_3 x1_4 x1_5 x1_6 x1_7 st) (qhl_ x1_0 x1_1 x1_3 x1_4 x1_5 x1_6 x1_7 r)
def qcl_ (rec_treevisitq3 : (W8) → (Int) → (W8) → (Int) → (List R8) → (W8) → (Int) → Option (List R8)) (n : Nat) (x1_0 : W8) (x1_1 : Int) (x1_3 : W8) (x1_4 : Int) (x1_5 : W8) (x1_6 : NL) (x1_7 : Int) (st : List R8 × Int) : Option ((List R8 × Int) ⊕ (List R8)) := match st with
 | (x1_2, x1_8) =>
  if x1_8 < x1_7 then
   if 0 ≤ x1_8 ∧ x1_8 < (((x1_6).l.length : Nat) : Int) then
    if (x1_8).toNat < ((x1_6).l).length then
     ((some (((x1_6).l).getD (x1_8).toNat 0))).bind fun y1_4_ =>
     (rec_treevisitq3 x1_5 y1_4_ x1_0 x1_1 x1_2 x1_3 x1_4).bind fun y1_5_ =>
     some (.inl (y1_5_, (w64 (x1_8 + (1 : Int)))))
    else none
   else none
  else
   some (.inr x1_2)
def qn1_ (rec_treevisitq3 : (W8) → (Int) → (W8) → (Int) → (List R8) → (W8) → (Int) → Option (List R8)) (n : Nat) (x1_0 : W8) (x1_1 : Int) (x1_3 : W8) (x1_4 : Int) (x1_5 : W8) (x1_6 : NL) (x1_7 : Int) (st : List R8 × Int) : Option (List R8) := iterM (qcl_ rec_treevisitq3 n x1_0 x1_1 x1_3 x1_4 x1_5 x1_6 x1_7) n st
theorem qsm_ (rec_treevisitq3 : (W8) → (Int) → (W8) → (Int) → (List R8) → (W8) → (Int) → Option (List R8)) (hrec_treevisitq3 : ∀ (a0 : W8) (a1 : Int) (a2 : W8) (a3 : Int) (a4 : List R8) (a5 : W8) (a6 : Int) (r : List R8), rec_treevisitq3 a0 a1 a2 a3 a4 a5 a6 = some r → Gv P (.func 57) (qkd_ a0 a1 a2 a3 a4 a5 a6) (qke_ a0 a1 a2 a3 a4 a5 a6) (qih_ a0 a1 a2 a3 a4 a5 a6 r) (qii_ a0 a1 a2 a3 a4 a5 a6 r)) (n : Nat) {rnd : Option Nat} (x1_0 : W8) (x1_1 : Int) (x1_3 : W8) (x1_4 : Int) (x1_5 : W8) (x1_6 : NL) (x1_7 : Int) (st : List R8 × Int) (o : (List R8 × Int) ⊕ (List R8)) (h : qcl_ rec_treevisitq3 n x1_0 x1_1 x1_3 x1_4 x1_5 x1_6 x1_7 st = some o) : qyt_ rnd x1_0 x1_1 x1_3 x1_4 x1_5 x1_6 x1_7 st (Sum.elim (fun s => (.normal, qj0_ x1_0 x1_1 x1_3 x1_4 x1_5 x1_6 x1_7 s)) (fun r => qhl_ x1_0 x1_1 x1_3 x1_4 x1_5 x1_6 x1_7 r) o) := by
 obtain ⟨x1_2, x1_8⟩ := st
 unfold qcl_ at h
 dsimp only at h
 by_cases hy1_1 : x1_8 < x1_7
 ·rw [if_pos hy1_1] at h
  obtain ⟨hy1_2, h⟩ := gd h
  obtain ⟨hy1_3, h⟩ := gd h
  obtain ⟨y1_4_, hy1_4, h⟩ := oB h
  obtain ⟨y1_5_, hy1_5, h⟩ := oB h
  obtain rfl := oI h
  exact runC2 hm (kW [0, 2, 17, 18, 19] [(0, 0, false), (1, 1, false), (2, 2, false), (3, 3, false), (4, 4, false), (6, 6, false), (7, 7, false), (8, 9, true)] 9 0) (zz 1 (xdT hy1_1) <|
   zz 7 (xk8 (Nat.add (x1_6).num 64) (x1_6).off (x1_6).cap hy1_2) <|
   zz 8 (nk9 hy1_4 hy1_3) <|
   yy 14 (.call (qvs_ x1_5 y1_4_ x1_0 x1_1 x1_2 x1_3 x1_4 y1_5_ [(0, 0, false), (1, 1, false), (2, 2, false), (3, 3, false), (4, 4, false), (5, 8, true), (6, 6, false), (7, 7, false)] [(0, 0, false), (1, 1, false), (2, 2, false), (3, 3, false), (4, 4, false), (6, 6, false), (7, 7, false), (9, 8, true)])) <|
   ww (hrec_treevisitq3 x1_5 y1_4_ x1_0 x1_1 x1_2 x1_3 x1_4 y1_5_ hy1_5) <|
   ww (qb_ rwf_iiiiiiLu x1_2 37) <|
   ww (qb_ rwf_iiiiiiLu y1_5_ 37) <|
   ww (qb_ rwf_iiiiiiLu y1_5_ 37) <|
   ee) (by kernel_rfl)
 ·rw [if_neg hy1_1] at h
  obtain rfl := oI h
  exact runC2 hm (kW [] [(0, 0, false), (1, 1, false), (2, 2, false), (3, 3, false), (4, 4, false), (6, 6, false), (7, 7, false), (8, 8, true)] 9 0) (zz 1 (xdF hy1_1) <|
   ww (qb_ rwf_iiiiiiLu x1_2 37) <|
   ee) (by kernel_rfl)
theorem qu3_ (rec_treevisitq3 : (W8) → (Int) → (W8) → (Int) → (List R8) → (W8) → (Int) → Option (List R8)) (hrec_treevisitq3 : ∀ (a0 : W8) (a1 : Int) (a2 : W8) (a3 : Int) (a4 : List R8) (a5 : W8) (a6 : Int) (r : List R8), rec_treevisitq3 a0 a1 a2 a3 a4 a5 a6 = some r → Gv P (.func 57) (qkd_ a0 a1 a2 a3 a4 a5 a6) (qke_ a0 a1 a2 a3 a4 a5 a6) (qih_ a0 a1 a2 a3 a4 a5 a6 r) (qii_ a0 a1 a2 a3 a4 a5 a6 r)) (n : Nat) {rnd : Option Nat} (x1_0 : W8) (x1_1 : Int) (x1_3 : W8) (x1_4 : Int) (x1_5 : W8) (x1_6 : NL) (x1_7 : Int) (st : List R8 × Int) (r : List R8) (h : qn1_ rec_treevisitq3 n x1_0 x1_1 x1_3 x1_4 x1_5 x1_6 x1_7 st = some r) : qsl_ rnd x1_0 x1_1 x1_3 x1_4 x1_5 x1_6 x1_7 st r :=
 CG.iter (b := qw_ P 57 [false, false, true, false, true, true]) (by kernel_rfl) (body := qcl_ rec_treevisitq3 n x1_0 x1_1 x1_3 x1_4 x1_5 x1_6 x1_7) (S := qj0_ x1_0 x1_1 x1_3 x1_4 x1_5 x1_6 x1_7) (X := qhl_ x1_0 x1_1 x1_3 x1_4 x1_5 x1_6 x1_7)
  (fun s s' h => qsm_ rec_treevisitq3 hrec_treevisitq3 n x1_0 x1_1 x1_3 x1_4 x1_5 x1_6 x1_7 s (.inl s') h)
  (fun s r h => qsm_ rec_treevisitq3 hrec_treevisitq3 n x1_0 x1_1 x1_3 x1_4 x1_5 x1_6 x1_7 s (.inr r) h)
  (fun r => by intro hx; cases hx) h
def qkf_ (rec_treevisitq3 : (W8) → (Int) → (W8) → (Int) → (List R8) → (W8) → (Int) → Option (List R8)) (n : Nat) (a0 : W8) (a1 : Int) (a2 : W8) (a3 : Int) (a4 : List R8) (a5 : W8) (a6 : Int) : Option (List R8) :=
 (qfn_ n a2 a3 a4 a5 a6 a1).bind fun c1_ =>
 if 0 ≤ a1 ∧ a1 < (((a0).l.length : Nat) : Int) then
  ((some (((a0).l).getD (a1).toNat (0, 0, 0, 0, 0, 0, nl0, 0)))).bind fun c3_ =>
  (qn1_ rec_treevisitq3 n a2 a3 a5 a6 a0 (c3_.2.2.2.2.2.2.1) ((((c3_.2.2.2.2.2.2.1)).l.length : Nat) : Int) (c1_, 0)).bind fun c4_ =>
  some c4_
 else none
theorem qyc_ (rec_treevisitq3 : (W8) → (Int) → (W8) → (Int) → (List R8) → (W8) → (Int) → Option (List R8)) (hrec_treevisitq3 : ∀ (a0 : W8) (a1 : Int) (a2 : W8) (a3 : Int) (a4 : List R8) (a5 : W8) (a6 : Int) (r : List R8), rec_treevisitq3 a0 a1 a2 a3 a4 a5 a6 = some r → Gv P (.func 57) (qkd_ a0 a1 a2 a3 a4 a5 a6) (qke_ a0 a1 a2 a3 a4 a5 a6) (qih_ a0 a1 a2 a3 a4 a5 a6 r) (qii_ a0 a1 a2 a3 a4 a5 a6 r)) (n : Nat) (a0 : W8) (a1 : Int) (a2 : W8) (a3 : Int) (a4 : List R8) (a5 : W8) (a6 : Int) (r : List R8) (h : qkf_ rec_treevisitq3 n a0 a1 a2 a3 a4 a5 a6 = some r) : G_treevisitq3 a0 a1 a2 a3 a4 a5 a6 r := by
 unfold qkf_ at h
 obtain ⟨c1_, hc1, h⟩ := oB h
 obtain ⟨hc2, h⟩ := gd h
 obtain ⟨c3_, hc3, h⟩ := oB h
 obtain ⟨c4_, hc4, h⟩ := oB h
 obtain rfl := oI h
 exact runF2 hm (kW [6] [(0, 0, false), (1, 1, false), (2, 2, false), (3, 3, false), (4, 4, false), (6, 6, false), (7, 7, false), (8, 8, true)] 9 0) (yy 6 (.call (qu2_ a2 a3 a4 a5 a6 a1 c1_ [(0, 0, false), (1, 1, false), (2, 2, false), (3, 3, false), (4, 4, false), (5, 5, true), (6, 6, false), (7, 7, false)] [(0, 0, false), (1, 1, false), (2, 2, false), (3, 3, false), (4, 4, false), (6, 6, false), (7, 7, false), (8, 8, true)])) <|
  ww (qrw_ n a2 a3 a4 a5 a6 a1 c1_ hc1) <|
  ww (qb_ rwf_iiiiiiLu a4 37) <|
  ww (qb_ rwf_iiiiiiLu c1_ 37) <|
  zz 13 (xk1 (a0).num (a0).off (a0).cap hc2) <|
  zz 14 (fk11 (a0).num (Nat.add (a0).off ((a1).toNat * 8))) <|
  zz 15 (lk12 hc3 (qba_ hc2)) <|
  ww (p := qsl_ none a2 a3 a5 a6 a0 (c3_.2.2.2.2.2.2.1) ((((c3_.2.2.2.2.2.2.1)).l.length : Nat) : Int) (c1_, 0) c4_) (qu3_ rec_treevisitq3 hrec_treevisitq3 n a2 a3 a5 a6 a0 (c3_.2.2.2.2.2.2.1) ((((c3_.2.2.2.2.2.2.1)).l.length : Nat) : Int) (c1_, 0) c4_ hc4) <|
  ww (qb_ rwf_iiiiiiLu c1_ 37) <|
  ll 19 ⟨(kW [0, 2, 17, 18, 19] [(0, 0, false), (1, 1, false), (2, 2, false), (3, 3, false), (4, 4, false), (6, 6, false), (7, 7, false), (8, 8, true)] 9 0), (qhl_ a2 a3 a5 a6 a0 (c3_.2.2.2.2.2.2.1) ((((c3_.2.2.2.2.2.2.1)).l.length : Nat) : Int) c4_).1, (qhl_ a2 a3 a5 a6 a0 (c3_.2.2.2.2.2.2.1) ((((c3_.2.2.2.2.2.2.1)).l.length : Nat) : Int) c4_).2⟩ <|
  ww (qb_ rwf_iiiiiiLu c4_ 37) <|
  ee) (by kernel_rfl)
def qd4_ : Nat → (W8) → (Int) → (W8) → (Int) → (List R8) → (W8) → (Int) → Option (List R8)
 | 0 => fun _ _ _ _ _ _ _ => none
 | n + 1 => fun a0 a1 a2 a3 a4 a5 a6 => qkf_ (qd4_ n) n a0 a1 a2 a3 a4 a5 a6
theorem qq6_ : ∀ (n : Nat) (a0 : W8) (a1 : Int) (a2 : W8) (a3 : Int) (a4 : List R8) (a5 : W8) (a6 : Int) (r : List R8) (h : qd4_ n a0 a1 a2 a3 a4 a5 a6 = some r), Gv P (.func 57) (qkd_ a0 a1 a2 a3 a4 a5 a6) (qke_ a0 a1 a2 a3 a4 a5 a6) (qih_ a0 a1 a2 a3 a4 a5 a6 r) (qii_ a0 a1 a2 a3 a4 a5 a6 r)
 | 0, _, _, _, _, _, _, _, _, h => nomatch h
 | n + 1, a0, a1, a2, a3, a4, a5, a6, r, h => qyc_ (qd4_ n) (qq6_ n) n a0 a1 a2 a3 a4 a5 a6 r h

def qvt_ (a0 : W8) (a1 : Int) (a2 : W8) (a3 : Int) (a4 : W8) (a5 : Int) (r : List R8) : Value := match r with
 | o0 => (bO true)
def qvu_ (a0 : W8) (a1 : Int) (a2 : W8) (a3 : Int) (a4 : W8) (a5 : Int) (r : List R8) : AH := match r with
 | o0 => ⟨sB [(0, (some (rblk P 21 [false, true, false, true, true, true] .ready none [(2, (pN 2 0)), (3, (pN 3 0)), (5, (pN 4 0)), (13, (Value.func (.func 56) #[] #[(pN 5 0), (pN 6 0)]))] 1))), (1, (some (.marks true))), (2, (cB [(wlV a2)] 22)), (3, (cB [(i6 a3)] 3)), (4, (cB [(sN 7 0 (o0).length (Nat.add big 8))] 22)), (5, (cB [(wlV a4)] 22)), (6, (cB [(i6 a5)] 3)), (7, (cB (rows rw_iiiiiiLu o0) 37))], 8, 0⟩
abbrev G_treevisitq2 (a0 : W8) (a1 : Int) (a2 : W8) (a3 : Int) (a4 : W8) (a5 : Int) (r : List R8) : Prop := Gv P (.func 57) [(wlV a0), (i6 a1), (Value.func (.yield 0) #[] #[])] ⟨sB [(0, (some (rblk P 21 [false, true, false, true, true, true] .ready none [(2, (pN 2 0)), (3, (pN 3 0)), (5, (pN 4 0)), (13, (Value.func (.func 56) #[] #[(pN 5 0), (pN 6 0)]))] 1))), (1, (some (.marks true))), (2, (cB [(wlV a2)] 22)), (3, (cB [(i6 a3)] 3)), (4, (cB [(Value.slice none 0 0)] 22)), (5, (cB [(wlV a4)] 22)), (6, (cB [(i6 a5)] 3))], 7, 7⟩ (qvt_ a0 a1 a2 a3 a4 a5 r) (qvu_ a0 a1 a2 a3 a4 a5 r)
abbrev C_treevisitq2 (a0 : W8) (a1 : Int) (a2 : W8) (a3 : Int) (a4 : W8) (a5 : Int) (r : List R8) (ins outs : BL) : CallA := ⟨7, ins, qvt_ a0 a1 a2 a3 a4 a5 r, qvu_ a0 a1 a2 a3 a4 a5 r, outs⟩
def qj1_ (x1_0 : W8) (x1_1 : Int) (x1_3 : W8) (x1_4 : Int) (x1_5 : W8) (x1_6 : NL) (x1_7 : Int) (st : List R8 × Int) : XSt := match st with
 | (x1_2, x1_8) => (sT 29 [(0, (wlV x1_5)), (2, (Value.func (.yield 0) #[] #[])), (17, (nlV x1_6)), (18, (i6 x1_7)), (19, (i6 x1_8))], [], ⟨sB [(0, (some (rblk P 21 [false, true, false, true, true, true] .ready none [(2, (pN 2 0)), (3, (pN 3 0)), (5, (pN 4 0)), (13, (Value.func (.func 56) #[] #[(pN 5 0), (pN 6 0)]))] 1))), (1, (some (.marks true))), (2, (cB [(wlV x1_0)] 22)), (3, (cB [(i6 x1_1)] 3)), (4, (cB [(sN 7 0 (x1_2).length (Nat.add big 8))] 22)), (5, (cB [(wlV x1_3)] 22)), (6, (cB [(i6 x1_4)] 3)), (7, (cB (rows rw_iiiiiiLu x1_2) 37))], 8, 0⟩)
def qhm_ (x1_0 : W8) (x1_1 : Int) (x1_3 : W8) (x1_4 : Int) (x1_5 : W8) (x1_6 : NL) (x1_7 : Int) (r : List R8) : Ex × XSt := match r with
 | z1_0 => (.exit 0, (sT 29 [], [], ⟨sB [(0, (some (rblk P 21 [false, true, false, true, true, true] .ready none [(2, (pN 2 0)), (3, (pN 3 0)), (5, (pN 4 0)), (13, (Value.func (.func 56) #[] #[(pN 5 0), (pN 6 0)]))] 1))), (1, (some (.marks true))), (2, (cB [(wlV x1_0)] 22)), (3, (cB [(i6 x1_1)] 3)), (4, (cB [(sN 7 0 (z1_0).length (Nat.add big 8))] 22)), (5, (cB [(wlV x1_3)] 22)), (6, (cB [(i6 x1_4)] 3)), (7, (cB (rows rw_iiiiiiLu z1_0) 37))], 8, 0⟩))
abbrev qyu_ (rnd : Option Nat) (x1_0 : W8) (x1_1 : Int) (x1_3 : W8) (x1_4 : Int) (x1_5 : W8) (x1_6 : NL) (x1_7 : Int) (st : List R8 × Int) (c : Ex × XSt) : Prop := CG P rnd (fnN P 57) 7 (qw_ P 57 [false, false, true, false, true, true]) (qj1_ x1_0 x1_1 x1_3 x1_4 x1_5 x1_6 x1_7 st) c
abbrev qsn_ (rd : Option Nat) (x1_0 : W8) (x1_1 : Int) (x1_3 : W8) (x1_4 : Int) (x1_5 : W8) (x1_6 : NL) (x1_7 : Int) (st : List R8 × Int) (r : List R8) : Prop := CG P rd (fnN P 57) 7 (qw_ P 57 [false, true, false, true, true]) (qj1_ x1_0 x1_1 x1_3 x1_4 x1_5 x1_6 x1_7 st) (qhm_ x1_0 x1_1 x1_3 x1_4 x1_5 x1_6 x1_7 r)
def qj2_ (n : Nat) (x1_0 : W8) (x1_1 : Int) (x1_3 : W8) (x1_4 : Int) (x1_5 : W8) (x1_6 : NL) (x1_7 : Int) (st : List R8 × Int) : Option ((List R8 × Int) ⊕ (List R8)) := match st with
 | (x1_2, x1_8) =>
  if x1_8 < x1_7 then
   if 0 ≤ x1_8 ∧ x1_8 < (((x1_6).l.length : Nat) : Int) then
    if (x1_8).toNat < ((x1_6).l).length then
     ((some (((x1_6).l).getD (x1_8).toNat 0))).bind fun y1_4_ =>
     (qd4_ n x1_5 y1_4_ x1_0 x1_1 x1_2 x1_3 x1_4).bind fun y1_5_ =>
     some (.inl (y1_5_, (w64 (x1_8 + (1 : Int)))))
    else none
   else none
  else
   some (.inr x1_2)
def qn2_ (n : Nat) (x1_0 : W8) (x1_1 : Int) (x1_3 : W8) (x1_4 : Int) (x1_5 : W8) (x1_6 : NL) (x1_7 : Int) (st : List R8 × Int) : Option (List R8) := iterM (qj2_ n x1_0 x1_1 x1_3 x1_4 x1_5 x1_6 x1_7) n st
theorem qso_ (n : Nat) {rnd : Option Nat} (x1_0 : W8) (x1_1 : Int) (x1_3 : W8) (x1_4 : Int) (x1_5 : W8) (x1_6 : NL) (x1_7 : Int) (st : List R8 × Int) (o : (List R8 × Int) ⊕ (List R8)) (h : qj2_ n x1_0 x1_1 x1_3 x1_4 x1_5 x1_6 x1_7 st = some o) : qyu_ rnd x1_0 x1_1 x1_3 x1_4 x1_5 x1_6 x1_7 st (Sum.elim (fun s => (.normal, qj1_ x1_0 x1_1 x1_3 x1_4 x1_5 x1_6 x1_7 s)) (fun r => qhm_ x1_0 x1_1 x1_3 x1_4 x1_5 x1_6 x1_7 r) o) := by
 obtain ⟨x1_2, x1_8⟩ := st
 unfold qj2_ at h
 dsimp only at h
 by_cases hy1_1 : x1_8 < x1_7
 ·rw [if_pos hy1_1] at h
  obtain ⟨hy1_2, h⟩ := gd h
  obtain ⟨hy1_3, h⟩ := gd h
  obtain ⟨y1_4_, hy1_4, h⟩ := oB h
  obtain ⟨y1_5_, hy1_5, h⟩ := oB h
  obtain rfl := oI h
  exact runC2 hm (kW [0, 2, 17, 18, 19] [(0, 0, false), (1, 1, false), (2, 2, false), (3, 3, false), (4, 4, false), (5, 5, false), (6, 6, false), (7, 8, true)] 8 0) (zz 1 (xdT hy1_1) <|
   zz 7 (xk8 (Nat.add (x1_6).num 64) (x1_6).off (x1_6).cap hy1_2) <|
   zz 8 (nk9 hy1_4 hy1_3) <|
   yy 14 (.call (qvs_ x1_5 y1_4_ x1_0 x1_1 x1_2 x1_3 x1_4 y1_5_ [(0, 0, false), (1, 1, false), (2, 2, false), (3, 3, false), (4, 4, false), (5, 7, true), (6, 5, false), (7, 6, false)] [(0, 0, false), (1, 1, false), (2, 2, false), (3, 3, false), (4, 4, false), (5, 6, false), (6, 7, false), (8, 8, true)])) <|
   ww (qq6_ n x1_5 y1_4_ x1_0 x1_1 x1_2 x1_3 x1_4 y1_5_ hy1_5) <|
   ww (qb_ rwf_iiiiiiLu x1_2 37) <|
   ww (qb_ rwf_iiiiiiLu y1_5_ 37) <|
   ww (qb_ rwf_iiiiiiLu y1_5_ 37) <|
   ee) (by kernel_rfl)
 ·rw [if_neg hy1_1] at h
  obtain rfl := oI h
  exact runC2 hm (kW [] [(0, 0, false), (1, 1, false), (2, 2, false), (3, 3, false), (4, 4, false), (5, 5, false), (6, 6, false), (7, 7, true)] 8 0) (zz 1 (xdF hy1_1) <|
   ww (qb_ rwf_iiiiiiLu x1_2 37) <|
   ee) (by kernel_rfl)
theorem qu4_ (n : Nat) {rnd : Option Nat} (x1_0 : W8) (x1_1 : Int) (x1_3 : W8) (x1_4 : Int) (x1_5 : W8) (x1_6 : NL) (x1_7 : Int) (st : List R8 × Int) (r : List R8) (h : qn2_ n x1_0 x1_1 x1_3 x1_4 x1_5 x1_6 x1_7 st = some r) : qsn_ rnd x1_0 x1_1 x1_3 x1_4 x1_5 x1_6 x1_7 st r :=
 CG.iter (b := qw_ P 57 [false, false, true, false, true, true]) (by kernel_rfl) (body := qj2_ n x1_0 x1_1 x1_3 x1_4 x1_5 x1_6 x1_7) (S := qj1_ x1_0 x1_1 x1_3 x1_4 x1_5 x1_6 x1_7) (X := qhm_ x1_0 x1_1 x1_3 x1_4 x1_5 x1_6 x1_7)
  (fun s s' h => qso_ n x1_0 x1_1 x1_3 x1_4 x1_5 x1_6 x1_7 s (.inl s') h)
  (fun s r h => qso_ n x1_0 x1_1 x1_3 x1_4 x1_5 x1_6 x1_7 s (.inr r) h)
  (fun r => by intro hx; cases hx) h
def qij_ (n : Nat) (a0 : W8) (a1 : Int) (a2 : W8) (a3 : Int) (a4 : W8) (a5 : Int) : Option (List R8) :=
 (qfm_ n a2 a3 a4 a5 a1).bind fun t => match t with
 | (c1_0, c1_1, c1_2, c1_3, c1_4, c1_5, c1_6, c1_7) =>
  if 0 ≤ a1 ∧ a1 < (((a0).l.length : Nat) : Int) then
   ((some (((a0).l).getD (a1).toNat (0, 0, 0, 0, 0, 0, nl0, 0)))).bind fun c3_ =>
   (qn2_ n a2 a3 a4 a5 a0 (c3_.2.2.2.2.2.2.1) ((((c3_.2.2.2.2.2.2.1)).l.length : Nat) : Int) ([(c1_0, c1_1, c1_2, c1_3, c1_4, c1_5, c1_6, c1_7)], 0)).bind fun c4_ =>
   some c4_
  else none
theorem qyd_ (n : Nat) (a0 : W8) (a1 : Int) (a2 : W8) (a3 : Int) (a4 : W8) (a5 : Int) (r : List R8) (h : qij_ n a0 a1 a2 a3 a4 a5 = some r) : G_treevisitq2 a0 a1 a2 a3 a4 a5 r := by
 unfold qij_ at h
 obtain ⟨⟨c1_0, c1_1, c1_2, c1_3, c1_4, c1_5, c1_6, c1_7⟩, hc1, h⟩ := oB h
 dsimp only at h
 obtain ⟨hc2, h⟩ := gd h
 obtain ⟨c3_, hc3, h⟩ := oB h
 obtain ⟨c4_, hc4, h⟩ := oB h
 obtain rfl := oI h
 exact runF2 hm (kW [6] [(0, 0, false), (1, 1, false), (2, 2, false), (3, 3, false), (4, 4, false), (5, 5, false), (6, 6, false), (7, 7, true)] 8 0) (yy 6 (.call (qu0_ a2 a3 a4 a5 a1 (c1_0, c1_1, c1_2, c1_3, c1_4, c1_5, c1_6, c1_7) (iD 7) (iD 8))) <|
  ww (qrv_ n a2 a3 a4 a5 a1 (c1_0, c1_1, c1_2, c1_3, c1_4, c1_5, c1_6, c1_7) hc1) <|
  zz 13 (xk1 (a0).num (a0).off (a0).cap hc2) <|
  zz 14 (fk11 (a0).num (Nat.add (a0).off ((a1).toNat * 8))) <|
  zz 15 (lk12 hc3 (qba_ hc2)) <|
  ww (p := qsn_ none a2 a3 a4 a5 a0 (c3_.2.2.2.2.2.2.1) ((((c3_.2.2.2.2.2.2.1)).l.length : Nat) : Int) ([(c1_0, c1_1, c1_2, c1_3, c1_4, c1_5, c1_6, c1_7)], 0) c4_) (qu4_ n a2 a3 a4 a5 a0 (c3_.2.2.2.2.2.2.1) ((((c3_.2.2.2.2.2.2.1)).l.length : Nat) : Int) ([(c1_0, c1_1, c1_2, c1_3, c1_4, c1_5, c1_6, c1_7)], 0) c4_ hc4) <|
  ll 19 ⟨(kW [0, 2, 17, 18, 19] (iD 8) 8 0), (qhm_ a2 a3 a4 a5 a0 (c3_.2.2.2.2.2.2.1) ((((c3_.2.2.2.2.2.2.1)).l.length : Nat) : Int) c4_).1, (qhm_ a2 a3 a4 a5 a0 (c3_.2.2.2.2.2.2.1) ((((c3_.2.2.2.2.2.2.1)).l.length : Nat) : Int) c4_).2⟩ <|
  ww (qb_ rwf_iiiiiiLu c4_ 37) <|
  ee) (by kernel_rfl)

def qsp_ (a0 : W8) (a1 : Int) (a2 : W8) (a3 : Int) (r : List R8) : Value := match r with
 | o0 => (Value.tuple #[])
def qsq_ (a0 : W8) (a1 : Int) (a2 : W8) (a3 : Int) (r : List R8) : AH := match r with
 | o0 => ⟨sB [(0, (some (rblk P 21 [false, true, false, true, true, true] .ready none [(2, (pN 2 0)), (3, (pN 3 0)), (5, (pN 4 0)), (13, (Value.func (.func 56) #[] #[(pN 5 0), (pN 6 0)]))] 1))), (1, (some (.marks true))), (2, (cB [(wlV a0)] 22)), (3, (cB [(i6 a1)] 3)), (4, (cB [(sN 7 0 (o0).length (Nat.add big 8))] 22)), (5, (cB [(wlV a2)] 22)), (6, (cB [(i6 a3)] 3)), (7, (cB (rows rw_iiiiiiLu o0) 37))], 8, 0⟩
abbrev qyv_ (a0 : W8) (a1 : Int) (a2 : W8) (a3 : Int) (r : List R8) : Prop := Gv P (.func 56) [(Value.func (.yield 0) #[] #[]), (pN 5 0), (pN 6 0)] ⟨sB [(0, (some (rblk P 21 [false, true, false, true, true, true] .ready none [(2, (pN 2 0)), (3, (pN 3 0)), (5, (pN 4 0)), (13, (Value.func (.func 56) #[] #[(pN 5 0), (pN 6 0)]))] 1))), (1, (some (.marks true))), (2, (cB [(wlV a0)] 22)), (3, (cB [(i6 a1)] 3)), (4, (cB [(Value.slice none 0 0)] 22)), (5, (cB [(wlV a2)] 22)), (6, (cB [(i6 a3)] 3))], 7, 7⟩ (qsp_ a0 a1 a2 a3 r) (qsq_ a0 a1 a2 a3 r)
abbrev qyw_ (a0 : W8) (a1 : Int) (a2 : W8) (a3 : Int) (r : List R8) (ins outs : BL) : CallA := ⟨7, ins, qsp_ a0 a1 a2 a3 r, qsq_ a0 a1 a2 a3 r, outs⟩
def qj3_ (n : Nat) (a0 : W8) (a1 : Int) (a2 : W8) (a3 : Int) : Option (List R8) :=
 (qij_ n a2 a3 a0 a1 a2 a3).bind fun c1_ =>
 some c1_
theorem qu5_ (n : Nat) (a0 : W8) (a1 : Int) (a2 : W8) (a3 : Int) (r : List R8) (h : qj3_ n a0 a1 a2 a3 = some r) : qyv_ a0 a1 a2 a3 r := by
 unfold qj3_ at h
 obtain ⟨c1_, hc1, h⟩ := oB h
 obtain rfl := oI h
 exact runF2 hm (kW [] [(0, 0, false), (1, 1, false), (2, 2, false), (3, 3, false), (4, 4, false), (5, 5, false), (6, 6, false), (7, 7, true)] 8 0) (yy 3 (.call (C_treevisitq2 a2 a3 a0 a1 a2 a3 c1_ (iD 7) [(0, 0, false), (1, 1, false), (2, 2, false), (3, 3, false), (4, 4, false), (5, 5, false), (6, 6, false), (7, 7, true)])) <|
  ww (qyd_ n a2 a3 a0 a1 a2 a3 c1_ hc1) <|
  ww (qb_ rwf_iiiiiiLu c1_ 37) <|
  ww (qb_ rwf_iiiiiiLu c1_ 37) <|
  ee) (by kernel_rfl)

def qzu_ (a0 : W8) (a1 : Int) (r : (W8) ⊕ (W8)) : Value := match r with
 | .inl o0 => (wlV o0)
 | .inr o0 => (wlV o0)
def qzv_ (a0 : W8) (a1 : Int) (r : (W8) ⊕ (W8)) : AH := match r with
 | .inl o0 => ⟨sB [(0, (some (.marks false)))], 1, 0⟩
 | .inr o0 => ⟨sB [], 0, 0⟩
abbrev G_treeSubq1 (a0 : W8) (a1 : Int) (r : (W8) ⊕ (W8)) : Prop := Gv P (.func 21) [(wlV a0), (i6 a1)] ⟨sB [], 0, 0⟩ (qzu_ a0 a1 r) (qzv_ a0 a1 r)
abbrev qzw_ (a0 : W8) (a1 : Int) (r : (W8) ⊕ (W8)) (ins outs : BL) : CallA := ⟨0, ins, qzu_ a0 a1 r, qzv_ a0 a1 r, outs⟩
def ql1_ (n : Nat) (a0 : W8) (a1 : Int) : Option ((W8) ⊕ (W8)) :=
 (qrr_ n a0 a1).bind fun c1_ =>
 if c1_ = true then
  (qg0_ n a0 a1).bind fun _ =>
  (qj3_ n a0 a1 a0 a1).bind fun c4_ =>
  if hc5 : c4_.length ≤ 9223372036854775807 then
   some (.inl (frzR qc7_ c4_ hc5))
  else none
 else
  some (.inr (wl0 : W8))
theorem qt7_ (n : Nat) (a0 : W8) (a1 : Int) (r : (W8) ⊕ (W8)) (h : ql1_ n a0 a1 = some r) : G_treeSubq1 a0 a1 r := by
 unfold ql1_ at h
 obtain ⟨c1_, hc1, h⟩ := oB h
 have k0 := fun {A L l} (k : PL A L l) => yy 8 (.call (C_treehasq1 a0 a1 c1_ [] [])) <|
  ww (q03_ n a0 a1 c1_ hc1) <|
  k
 by_cases hc2 : c1_ = true
 ·rw [if_pos hc2] at h
  obtain ⟨_, hc3, h⟩ := oB h
  obtain ⟨c4_, hc4, h⟩ := oB h
  obtain ⟨hc5, h⟩ := gdD h
  obtain rfl := oI h
  exact runF2 hm ⟨[4], [(0, 5, false)], 1, 0, [(7, Nat.add (2 * codL (rows rw_iiiiiiLu c4_) + 1) 64)], true, [], [], []⟩ (k0 <|
   yy 9 (vf) <|
   ww (p := (Value.bool (!c1_)) = (Value.bool false)) (vBn hc2) <|
   yy 17 (.call (qt2_ a0 a1 () [] [(3, 0, false), (4, 1, false)])) <|
   ww (qpv_ n a0 a1 () hc3) <|
   yy 19 (.rng (qyw_ a0 a1 a0 a1 c4_ [(0, 6, false), (1, 5, false), (2, 0, false), (3, 1, false), (4, 2, false), (5, 3, false), (6, 4, false)] [(6, 0, false), (5, 1, false), (0, 2, false), (1, 3, false), (2, 4, false), (3, 5, false), (4, 6, false), (7, 7, true)]) [2, 3, 5, 13]) <|
   ww (qu5_ n a0 a1 a0 a1 c4_ hc4) <|
   ww (qb_ rwf_iiiiiiLu c4_ 37) <|
   ww (qx3_ qee_ qiv_ qc7_ c4_) <|
   ee) (by kernel_rfl)
 ·rw [if_neg hc2] at h
  obtain rfl := oI h
  exact runF2 hm ⟨[4], [], 0, 0, [], true, [], [], [4]⟩ (k0 <|
   yy 9 (vt) <|
   ww (p := (Value.bool (!c1_)) = (Value.bool true)) (vBn (Bool.eq_false_iff.2 hc2)) <|
   ee) (by kernel_rfl)

def qpy_ (a0 : W8) (a1 : Int) (r : Unit) : Value := match r with
 | _ => (bO false)
def qpz_ (a0 : W8) (a1 : Int) (r : Unit) : AH := match r with
 | _ => ⟨sB [], 0, 0⟩
abbrev qv9_ (a0 : W8) (a1 : Int) (r : Unit) : Prop := Gv P (.func 19) [(wlV a0), (Value.slice none 0 0), (i6 a1)] ⟨sB [], 0, 0⟩ (qpy_ a0 a1 r) (qpz_ a0 a1 r)
abbrev qhx_ (a0 : W8) (a1 : Int) (r : Unit) (ins outs : BL) : CallA := ⟨0, ins, qpy_ a0 a1 r, qpz_ a0 a1 r, outs⟩
def qe1_ (n : Nat) (a0 : W8) (a1 : Int) : Option (Unit) :=
 if 0 ≤ a1 ∧ a1 < (((a0).l.length : Nat) : Int) then
  ((some (((a0).l).getD (a1).toNat (0, 0, 0, 0, 0, 0, nl0, 0)))).bind fun c2_ =>
  if (c2_.2.1) = (2 : Int) then
   none
  else
   some ()
 else none
theorem qfx_ (n : Nat) (a0 : W8) (a1 : Int) (r : Unit) (h : qe1_ n a0 a1 = some r) : qv9_ a0 a1 r := by
 unfold qe1_ at h
 obtain ⟨hc1, h⟩ := gd h
 obtain ⟨c2_, hc2, h⟩ := oB h
 have k0 := fun {A L l} (k : PL A L l) => zz 5 (xk1 (a0).num (a0).off (a0).cap hc1) <|
  zz 6 (fk15 (a0).num (Nat.add (a0).off ((a1).toNat * 8))) <|
  zz 7 (lk16 hc2 (qba_ hc1)) <|
  k
 by_cases hc3 : (c2_.2.1) = (2 : Int)
 ·rw [if_pos hc3] at h
  cases h
 ·rw [if_neg hc3] at h
  obtain rfl := oI h
  exact runF2 hm (kW [6] [] 0 0) (k0 <|
   zz 8 (xeF hc3) <|
   ee) (by kernel_rfl)

def qvv_ (a0 : W8) (a1 : Int) (a2 : Int) (r : W8 × Bool) : Value := match r with
 | (o0, o1) => (Value.tuple #[(wlV o0), (bO o1)])
def qvw_ (a0 : W8) (a1 : Int) (a2 : Int) (r : W8 × Bool) : AH := match r with
 | (o0, o1) => ⟨sB [], 0, 0⟩
abbrev G_reuseTakeq1 (a0 : W8) (a1 : Int) (a2 : Int) (r : W8 × Bool) : Prop := Gv P (.func 6) [(wlV a0), (i6 a1), (i6 a2)] ⟨sB [], 0, 0⟩ (qvv_ a0 a1 a2 r) (qvw_ a0 a1 a2 r)
abbrev C_reuseTakeq1 (a0 : W8) (a1 : Int) (a2 : Int) (r : W8 × Bool) (ins outs : BL) : CallA := ⟨0, ins, qvv_ a0 a1 a2 r, qvw_ a0 a1 a2 r, outs⟩
def qfs_ (n : Nat) (a0 : W8) (a1 : Int) (a2 : Int) : Option (W8 × Bool) :=
 match qgp_ n a0 a1 a2 with
 | none => none
 | some (.inl (c1_0, c1_1)) =>
  if c1_1 = true then
   match qch_ n a0 with
   | none => none
   | some (.inl c3_) =>
    (qcw_ n a0 c3_ (((((a0).l.length : Nat) : Int)).toNat) (((((a0).l.length : Nat) : Int)).toNat) c1_0).bind fun c4_ =>
    if c4_ = true then
     match ql1_ n a0 c1_0 with
     | none => none
     | some (.inl c6_) =>
      some (c6_, true)
     | some (.inr c6_) =>
      some (c6_, true)
    else
     some ((wl0 : W8), false)
   | some (.inr _) =>
    (qe1_ n a0 c1_0).bind fun _ =>
    some ((wl0 : W8), false)
  else
   some ((wl0 : W8), false)
 | some (.inr _) =>
  some ((wl0 : W8), false)
theorem qye_ (n : Nat) (a0 : W8) (a1 : Int) (a2 : Int) (r : W8 × Bool) (h : qfs_ n a0 a1 a2 = some r) : G_reuseTakeq1 a0 a1 a2 r := by
 unfold qfs_ at h
 rcases hc1 : qgp_ n a0 a1 a2 with _ | (⟨c1_0, c1_1⟩ | ⟨⟩)
 ·rw [hc1] at h; cases h
 ·rw [hc1] at h
  dsimp only at h
  have k0 := fun {A L l} (k : PL A L l) => yy 7 (.call (qx8_ a0 a1 a2 (.inl (c1_0, c1_1)) [] [(1, 1, false), (2, 2, false)])) <|
   ww (qsk_ n a0 a1 a2 (.inl (c1_0, c1_1)) hc1) <|
   k
  by_cases hc2 : c1_1 = true
  ·rw [if_pos hc2] at h
   have k2 := fun {A L l} (k : PL A L l) => yy 16 (vf) <|
    ww (p := (Value.bool (!c1_1)) = (Value.bool false)) (vBn hc2) <|
    k
   rcases hc3 : qch_ n a0 with _ | (c3_ | ⟨⟩)
   ·rw [hc3] at h; cases h
   ·rw [hc3] at h
    dsimp only at h
    obtain ⟨c4_, hc4, h⟩ := oB h
    have k4 := fun {A L l} (k : PL A L l) => yy 20 (.call (qif_ a0 (.inl c3_) [] [(4, 1, true)])) <|
     ww (qfk_ n a0 (.inl c3_) hc3) <|
     ww (qb_ rwf_b c3_ 4) <|
     yy 22 (.call (qhw_ a0 c3_ (((((a0).l.length : Nat) : Int)).toNat) (((((a0).l.length : Nat) : Int)).toNat) c1_0 c4_ [(0, 4, true)] [])) <|
     ww (qfv_ n a0 c3_ (((((a0).l.length : Nat) : Int)).toNat) (((((a0).l.length : Nat) : Int)).toNat) c1_0 c4_ hc4) <|
     ww (qb_ rwf_b c3_ 4) <|
     k
    by_cases hc5 : c4_ = true
    ·rw [if_pos hc5] at h
     have k10 := fun {A L l} (k : PL A L l) => yy 23 (vf) <|
      ww (p := (Value.bool (!c4_)) = (Value.bool false)) (vBn hc5) <|
      k
     rcases hc6 : ql1_ n a0 c1_0 with _ | (c6_ | c6_)
     ·rw [hc6] at h; cases h
     ·rw [hc6] at h
      dsimp only at h
      obtain rfl := oI h
      exact runF2 hm (kW [6, 7] [] 0 0) (k0 <|
       k2 <|
       k4 <|
       k10 <|
       yy 29 (.call (qzw_ a0 c1_0 (.inl c6_) [] [])) <|
       ww (qt7_ n a0 c1_0 (.inl c6_) hc6) <|
       ee) (by kernel_rfl)
     ·rw [hc6] at h
      dsimp only at h
      obtain rfl := oI h
      exact runF2 hm (kW [6, 7] [] 0 0) (k0 <|
       k2 <|
       k4 <|
       k10 <|
       yy 29 (.call (qzw_ a0 c1_0 (.inr c6_) [] [])) <|
       ww (qt7_ n a0 c1_0 (.inr c6_) hc6) <|
       ee) (by kernel_rfl)
    ·rw [if_neg hc5] at h
     obtain rfl := oI h
     exact runF2 hm ⟨[6, 7], [], 0, 0, [], true, [], [], [6]⟩ (k0 <|
      k2 <|
      k4 <|
      yy 23 (vt) <|
      ww (p := (Value.bool (!c4_)) = (Value.bool true)) (vBn (Bool.eq_false_iff.2 hc5)) <|
      ee) (by kernel_rfl)
   ·rw [hc3] at h
    dsimp only at h
    obtain ⟨_, hc4, h⟩ := oB h
    obtain rfl := oI h
    exact runF2 hm ⟨[6, 7], [], 0, 0, [], true, [], [], [6]⟩ (k0 <|
     k2 <|
     yy 20 (.call (qif_ a0 (.inr ()) [] [])) <|
     ww (qfk_ n a0 (.inr ()) hc3) <|
     yy 22 (.call (qhx_ a0 c1_0 () [] [])) <|
     ww (qfx_ n a0 c1_0 () hc4) <|
     ee) (by kernel_rfl)
  ·rw [if_neg hc2] at h
   obtain rfl := oI h
   exact runF2 hm ⟨[6, 7], [], 0, 0, [], true, [], [], [6]⟩ (k0 <|
    yy 16 (vt) <|
    ww (p := (Value.bool (!c1_1)) = (Value.bool true)) (vBn (Bool.eq_false_iff.2 hc2)) <|
    ee) (by kernel_rfl)
 ·rw [hc1] at h
  dsimp only at h
  obtain rfl := oI h
  exact runF2 hm ⟨[6, 7], [], 0, 0, [], true, [], [], [6]⟩ (yy 7 (.call (qx8_ a0 a1 a2 (.inr ()) [] (iD 2))) <|
   ww (qsk_ n a0 a1 a2 (.inr ()) hc1) <|
   ee) (by kernel_rfl)

def qlc_ (a0 : Int) (r : Bool) : Value := match r with
 | o0 => (bO o0)
def qld_ (a0 : Int) (r : Bool) : AH := match r with
 | o0 => ⟨sB [], 0, 0⟩
abbrev qrx_ (a0 : Int) (r : Bool) : Prop := Gv P (.func 45) [(i6 a0)] ⟨sB [], 0, 0⟩ (qlc_ a0 r) (qld_ a0 r)
abbrev q7_ (a0 : Int) (r : Bool) (ins outs : BL) : CallA := ⟨0, ins, qlc_ a0 r, qld_ a0 r, outs⟩
def qf_ (n : Nat) (a0 : Int) : Option (Bool) :=
 if a0 = (1 : Int) then
  some false
 else
  if a0 = (2 : Int) then
   some false
  else
   some true
theorem qq_ (n : Nat) (a0 : Int) (r : Bool) (h : qf_ n a0 = some r) : qrx_ a0 r := by
 unfold qf_ at h
 by_cases hc1 : a0 = (1 : Int)
 ·rw [if_pos hc1] at h
  obtain rfl := oI h
  exact runF2 hm (kW [2] [] 0 0) (zz 4 (xnF hc1) <|
   ee) (by kernel_rfl)
 ·rw [if_neg hc1] at h
  have k0 := fun {A L l} (k : PL A L l) => zz 4 (xnT hc1) <|
   k
  by_cases hc2 : a0 = (2 : Int)
  ·rw [if_pos hc2] at h
   obtain rfl := oI h
   exact runF2 hm (kW [2] [] 0 0) (k0 <|
    zz 7 (xnF hc2) <|
    ee) (by kernel_rfl)
  ·rw [if_neg hc2] at h
   obtain rfl := oI h
   exact runF2 hm (kW [2] [] 0 0) (k0 <|
    zz 7 (xnT hc2) <|
    ee) (by kernel_rfl)

def qle_ (a0 : Int) (a1 : Int) (a2 : Int) (a3 : Int) (a4 : Int) (a5 : Int) (a6 : NL) (a7 : Int) (r : Bool) : Value := match r with
 | o0 => (bO o0)
def qlf_ (a0 : Int) (a1 : Int) (a2 : Int) (a3 : Int) (a4 : Int) (a5 : Int) (a6 : NL) (a7 : Int) (r : Bool) : AH := match r with
 | o0 => ⟨sB [], 0, 0⟩
abbrev qry_ (a0 : Int) (a1 : Int) (a2 : Int) (a3 : Int) (a4 : Int) (a5 : Int) (a6 : NL) (a7 : Int) (r : Bool) : Prop := Gv P (.func 55) [(Value.agg #[(i6 a0), (i6 a1), (i6 a2), (i6 a3), (i6 a4), (i6 a5), (nlV a6), (Value.int .u64 a7)])] ⟨sB [], 0, 0⟩ (qle_ a0 a1 a2 a3 a4 a5 a6 a7 r) (qlf_ a0 a1 a2 a3 a4 a5 a6 a7 r)
abbrev qrz_ (a0 : Int) (a1 : Int) (a2 : Int) (a3 : Int) (a4 : Int) (a5 : Int) (a6 : NL) (a7 : Int) (r : Bool) (ins outs : BL) : CallA := ⟨0, ins, qle_ a0 a1 a2 a3 a4 a5 a6 a7 r, qlf_ a0 a1 a2 a3 a4 a5 a6 a7 r, outs⟩
def qv_ (n : Nat) (a0 : Int) (a1 : Int) (a2 : Int) (a3 : Int) (a4 : Int) (a5 : Int) (a6 : NL) (a7 : Int) : Option (Bool) :=
 if a1 < (1 : Int) then
  some false
 else
  if a1 > (6 : Int) then
   some false
  else
   if a2 < (0 : Int) then
    some false
   else
    if a2 > a4 then
     some false
    else
     if a5 ≤ a2 then
      some false
     else
      if a1 = (3 : Int) then
       if a3 < a2 then
        some false
       else
        if a3 > a4 then
         some false
        else
         if a1 = (4 : Int) then
          if a2 = a4 then
           (qf_ n a1).bind fun c11_ =>
           if c11_ = true then
            if (((a6).l.length : Nat) : Int) = (0 : Int) then
             some true
            else
             some false
           else
            some true
          else
           some false
         else
          (qf_ n a1).bind fun c10_ =>
          if c10_ = true then
           if (((a6).l.length : Nat) : Int) = (0 : Int) then
            some true
           else
            some false
          else
           some true
      else
       if a1 = (5 : Int) then
        if a3 < a2 then
         some false
        else
         if a3 > a4 then
          some false
         else
          if a1 = (4 : Int) then
           if a2 = a4 then
            (qf_ n a1).bind fun c12_ =>
            if c12_ = true then
             if (((a6).l.length : Nat) : Int) = (0 : Int) then
              some true
             else
              some false
            else
             some true
           else
            some false
          else
           (qf_ n a1).bind fun c11_ =>
           if c11_ = true then
            if (((a6).l.length : Nat) : Int) = (0 : Int) then
             some true
            else
             some false
           else
            some true
       else
        if a1 = (6 : Int) then
         if a3 < a2 then
          some false
         else
          if a3 > a4 then
           some false
          else
           if a1 = (4 : Int) then
            if a2 = a4 then
             (qf_ n a1).bind fun c13_ =>
             if c13_ = true then
              if (((a6).l.length : Nat) : Int) = (0 : Int) then
               some true
              else
               some false
             else
              some true
            else
             some false
           else
            (qf_ n a1).bind fun c12_ =>
            if c12_ = true then
             if (((a6).l.length : Nat) : Int) = (0 : Int) then
              some true
             else
              some false
            else
             some true
        else
         if a3 = a2 then
          if a1 = (4 : Int) then
           if a2 = a4 then
            (qf_ n a1).bind fun c12_ =>
            if c12_ = true then
             if (((a6).l.length : Nat) : Int) = (0 : Int) then
              some true
             else
              some false
            else
             some true
           else
            some false
          else
           (qf_ n a1).bind fun c11_ =>
           if c11_ = true then
            if (((a6).l.length : Nat) : Int) = (0 : Int) then
             some true
            else
             some false
           else
            some true
         else
          some false
theorem qpe_ (n : Nat) (a0 : Int) (a1 : Int) (a2 : Int) (a3 : Int) (a4 : Int) (a5 : Int) (a6 : NL) (a7 : Int) (r : Bool) (h : qv_ n a0 a1 a2 a3 a4 a5 a6 a7 = some r) : qry_ a0 a1 a2 a3 a4 a5 a6 a7 r := by
 unfold qv_ at h
 by_cases hc1 : a1 < (1 : Int)
 ·rw [if_pos hc1] at h
  obtain rfl := oI h
  exact runF2 hm (kW [2] [] 0 0) (zz 7 (xdT hc1) <|
   ee) (by kernel_rfl)
 ·rw [if_neg hc1] at h
  have k0 := fun {A L l} (k : PL A L l) => zz 7 (xdF hc1) <|
   k
  by_cases hc2 : a1 > (6 : Int)
  ·rw [if_pos hc2] at h
   obtain rfl := oI h
   exact runF2 hm (kW [2] [] 0 0) (k0 <|
    zz 11 (xdT hc2) <|
    ee) (by kernel_rfl)
  ·rw [if_neg hc2] at h
   have k1 := fun {A L l} (k : PL A L l) => zz 11 (xdF hc2) <|
    k
   by_cases hc3 : a2 < (0 : Int)
   ·rw [if_pos hc3] at h
    obtain rfl := oI h
    exact runF2 hm (kW [2] [] 0 0) (k0 <|
     k1 <|
     zz 16 (xdT hc3) <|
     ee) (by kernel_rfl)
   ·rw [if_neg hc3] at h
    have k2 := fun {A L l} (k : PL A L l) => zz 16 (xdF hc3) <|
     k
    by_cases hc4 : a2 > a4
    ·rw [if_pos hc4] at h
     obtain rfl := oI h
     exact runF2 hm (kW [2] [] 0 0) (k0 <|
      k1 <|
      k2 <|
      zz 23 (xdT hc4) <|
      ee) (by kernel_rfl)
    ·rw [if_neg hc4] at h
     have k3 := fun {A L l} (k : PL A L l) => zz 23 (xdF hc4) <|
      k
     by_cases hc5 : a5 ≤ a2
     ·rw [if_pos hc5] at h
      obtain rfl := oI h
      exact runF2 hm (kW [2] [] 0 0) (k0 <|
       k1 <|
       k2 <|
       k3 <|
       zz 30 (xdT hc5) <|
       ee) (by kernel_rfl)
     ·rw [if_neg hc5] at h
      have k4 := fun {A L l} (k : PL A L l) => zz 30 (xdF hc5) <|
       k
      by_cases hc6 : a1 = (3 : Int)
      ·rw [if_pos hc6] at h
       have k5 := fun {A L l} (k : PL A L l) => zz 36 (xeT hc6) <|
        k
       by_cases hc7 : a3 < a2
       ·rw [if_pos hc7] at h
        obtain rfl := oI h
        exact runF2 hm (kW [2] [] 0 0) (k0 <|
         k1 <|
         k2 <|
         k3 <|
         k4 <|
         k5 <|
         zz 56 (xdT hc7) <|
         ee) (by kernel_rfl)
       ·rw [if_neg hc7] at h
        have k6 := fun {A L l} (k : PL A L l) => zz 56 (xdF hc7) <|
         k
        by_cases hc8 : a3 > a4
        ·rw [if_pos hc8] at h
         obtain rfl := oI h
         exact runF2 hm (kW [2] [] 0 0) (k0 <|
          k1 <|
          k2 <|
          k3 <|
          k4 <|
          k5 <|
          k6 <|
          zz 62 (xdT hc8) <|
          ee) (by kernel_rfl)
        ·rw [if_neg hc8] at h
         have k7 := fun {A L l} (k : PL A L l) => zz 62 (xdF hc8) <|
          k
         by_cases hc9 : a1 = (4 : Int)
         ·rw [if_pos hc9] at h
          have k8 := fun {A L l} (k : PL A L l) => zz 80 (xnF hc9) <|
           k
          by_cases hc10 : a2 = a4
          ·rw [if_pos hc10] at h
           obtain ⟨c11_, hc11, h⟩ := oB h
           have k9 := fun {A L l} (k : PL A L l) => zz 86 (xeT hc10) <|
            yy 91 (.call (q7_ a1 c11_ [] [])) <|
            ww (qq_ n a1 c11_ hc11) <|
            k
           by_cases hc12 : c11_ = true
           ·rw [if_pos hc12] at h
            have k12 := fun {A L l} (k : PL A L l) => yy 92 (vf) <|
             ww (p := (Value.bool (!c11_)) = (Value.bool false)) (vBn hc12) <|
             k
            by_cases hc13 : (((a6).l.length : Nat) : Int) = (0 : Int)
            ·rw [if_pos hc13] at h
             obtain rfl := oI h
             exact runF2 hm (kW [2] [] 0 0) (k0 <|
              k1 <|
              k2 <|
              k3 <|
              k4 <|
              k5 <|
              k6 <|
              k7 <|
              k8 <|
              k9 <|
              k12 <|
              zz 97 (xeT hc13) <|
              ee) (by kernel_rfl)
            ·rw [if_neg hc13] at h
             obtain rfl := oI h
             exact runF2 hm (kW [2] [] 0 0) (k0 <|
              k1 <|
              k2 <|
              k3 <|
              k4 <|
              k5 <|
              k6 <|
              k7 <|
              k8 <|
              k9 <|
              k12 <|
              zz 97 (xeF hc13) <|
              ee) (by kernel_rfl)
           ·rw [if_neg hc12] at h
            obtain rfl := oI h
            exact runF2 hm (kW [2] [] 0 0) (k0 <|
             k1 <|
             k2 <|
             k3 <|
             k4 <|
             k5 <|
             k6 <|
             k7 <|
             k8 <|
             k9 <|
             yy 92 (vt) <|
             ww (p := (Value.bool (!c11_)) = (Value.bool true)) (vBn (Bool.eq_false_iff.2 hc12)) <|
             ee) (by kernel_rfl)
          ·rw [if_neg hc10] at h
           obtain rfl := oI h
           exact runF2 hm (kW [2] [] 0 0) (k0 <|
            k1 <|
            k2 <|
            k3 <|
            k4 <|
            k5 <|
            k6 <|
            k7 <|
            k8 <|
            zz 86 (xeF hc10) <|
            ee) (by kernel_rfl)
         ·rw [if_neg hc9] at h
          obtain ⟨c10_, hc10, h⟩ := oB h
          have k8 := fun {A L l} (k : PL A L l) => zz 80 (xnT hc9) <|
           yy 91 (.call (q7_ a1 c10_ [] [])) <|
           ww (qq_ n a1 c10_ hc10) <|
           k
          by_cases hc11 : c10_ = true
          ·rw [if_pos hc11] at h
           have k11 := fun {A L l} (k : PL A L l) => yy 92 (vf) <|
            ww (p := (Value.bool (!c10_)) = (Value.bool false)) (vBn hc11) <|
            k
           by_cases hc12 : (((a6).l.length : Nat) : Int) = (0 : Int)
           ·rw [if_pos hc12] at h
            obtain rfl := oI h
            exact runF2 hm (kW [2] [] 0 0) (k0 <|
             k1 <|
             k2 <|
             k3 <|
             k4 <|
             k5 <|
             k6 <|
             k7 <|
             k8 <|
             k11 <|
             zz 97 (xeT hc12) <|
             ee) (by kernel_rfl)
           ·rw [if_neg hc12] at h
            obtain rfl := oI h
            exact runF2 hm (kW [2] [] 0 0) (k0 <|
             k1 <|
             k2 <|
             k3 <|
             k4 <|
             k5 <|
             k6 <|
             k7 <|
             k8 <|
             k11 <|
             zz 97 (xeF hc12) <|
             ee) (by kernel_rfl)
          ·rw [if_neg hc11] at h
           obtain rfl := oI h
           exact runF2 hm (kW [2] [] 0 0) (k0 <|
            k1 <|
            k2 <|
            k3 <|
            k4 <|
            k5 <|
            k6 <|
            k7 <|
            k8 <|
            yy 92 (vt) <|
            ww (p := (Value.bool (!c10_)) = (Value.bool true)) (vBn (Bool.eq_false_iff.2 hc11)) <|
            ee) (by kernel_rfl)
      ·rw [if_neg hc6] at h
       have k5 := fun {A L l} (k : PL A L l) => zz 36 (xeF hc6) <|
        k
       by_cases hc7 : a1 = (5 : Int)
       ·rw [if_pos hc7] at h
        have k6 := fun {A L l} (k : PL A L l) => zz 40 (xeT hc7) <|
         k
        by_cases hc8 : a3 < a2
        ·rw [if_pos hc8] at h
         obtain rfl := oI h
         exact runF2 hm (kW [2] [] 0 0) (k0 <|
          k1 <|
          k2 <|
          k3 <|
          k4 <|
          k5 <|
          k6 <|
          zz 56 (xdT hc8) <|
          ee) (by kernel_rfl)
        ·rw [if_neg hc8] at h
         have k7 := fun {A L l} (k : PL A L l) => zz 56 (xdF hc8) <|
          k
         by_cases hc9 : a3 > a4
         ·rw [if_pos hc9] at h
          obtain rfl := oI h
          exact runF2 hm (kW [2] [] 0 0) (k0 <|
           k1 <|
           k2 <|
           k3 <|
           k4 <|
           k5 <|
           k6 <|
           k7 <|
           zz 62 (xdT hc9) <|
           ee) (by kernel_rfl)
         ·rw [if_neg hc9] at h
          have k8 := fun {A L l} (k : PL A L l) => zz 62 (xdF hc9) <|
           k
          by_cases hc10 : a1 = (4 : Int)
          ·rw [if_pos hc10] at h
           have k9 := fun {A L l} (k : PL A L l) => zz 80 (xnF hc10) <|
            k
           by_cases hc11 : a2 = a4
           ·rw [if_pos hc11] at h
            obtain ⟨c12_, hc12, h⟩ := oB h
            have k10 := fun {A L l} (k : PL A L l) => zz 86 (xeT hc11) <|
             yy 91 (.call (q7_ a1 c12_ [] [])) <|
             ww (qq_ n a1 c12_ hc12) <|
             k
            by_cases hc13 : c12_ = true
            ·rw [if_pos hc13] at h
             have k13 := fun {A L l} (k : PL A L l) => yy 92 (vf) <|
              ww (p := (Value.bool (!c12_)) = (Value.bool false)) (vBn hc13) <|
              k
             by_cases hc14 : (((a6).l.length : Nat) : Int) = (0 : Int)
             ·rw [if_pos hc14] at h
              obtain rfl := oI h
              exact runF2 hm (kW [2] [] 0 0) (k0 <|
               k1 <|
               k2 <|
               k3 <|
               k4 <|
               k5 <|
               k6 <|
               k7 <|
               k8 <|
               k9 <|
               k10 <|
               k13 <|
               zz 97 (xeT hc14) <|
               ee) (by kernel_rfl)
             ·rw [if_neg hc14] at h
              obtain rfl := oI h
              exact runF2 hm (kW [2] [] 0 0) (k0 <|
               k1 <|
               k2 <|
               k3 <|
               k4 <|
               k5 <|
               k6 <|
               k7 <|
               k8 <|
               k9 <|
               k10 <|
               k13 <|
               zz 97 (xeF hc14) <|
               ee) (by kernel_rfl)
            ·rw [if_neg hc13] at h
             obtain rfl := oI h
             exact runF2 hm (kW [2] [] 0 0) (k0 <|
              k1 <|
              k2 <|
              k3 <|
              k4 <|
              k5 <|
              k6 <|
              k7 <|
              k8 <|
              k9 <|
              k10 <|
              yy 92 (vt) <|
              ww (p := (Value.bool (!c12_)) = (Value.bool true)) (vBn (Bool.eq_false_iff.2 hc13)) <|
              ee) (by kernel_rfl)
           ·rw [if_neg hc11] at h
            obtain rfl := oI h
            exact runF2 hm (kW [2] [] 0 0) (k0 <|
             k1 <|
             k2 <|
             k3 <|
             k4 <|
             k5 <|
             k6 <|
             k7 <|
             k8 <|
             k9 <|
             zz 86 (xeF hc11) <|
             ee) (by kernel_rfl)
          ·rw [if_neg hc10] at h
           obtain ⟨c11_, hc11, h⟩ := oB h
           have k9 := fun {A L l} (k : PL A L l) => zz 80 (xnT hc10) <|
            yy 91 (.call (q7_ a1 c11_ [] [])) <|
            ww (qq_ n a1 c11_ hc11) <|
            k
           by_cases hc12 : c11_ = true
           ·rw [if_pos hc12] at h
            have k12 := fun {A L l} (k : PL A L l) => yy 92 (vf) <|
             ww (p := (Value.bool (!c11_)) = (Value.bool false)) (vBn hc12) <|
             k
            by_cases hc13 : (((a6).l.length : Nat) : Int) = (0 : Int)
            ·rw [if_pos hc13] at h
             obtain rfl := oI h
             exact runF2 hm (kW [2] [] 0 0) (k0 <|
              k1 <|
              k2 <|
              k3 <|
              k4 <|
              k5 <|
              k6 <|
              k7 <|
              k8 <|
              k9 <|
              k12 <|
              zz 97 (xeT hc13) <|
              ee) (by kernel_rfl)
            ·rw [if_neg hc13] at h
             obtain rfl := oI h
             exact runF2 hm (kW [2] [] 0 0) (k0 <|
              k1 <|
              k2 <|
              k3 <|
              k4 <|
              k5 <|
              k6 <|
              k7 <|
              k8 <|
              k9 <|
              k12 <|
              zz 97 (xeF hc13) <|
              ee) (by kernel_rfl)
           ·rw [if_neg hc12] at h
            obtain rfl := oI h
            exact runF2 hm (kW [2] [] 0 0) (k0 <|
             k1 <|
             k2 <|
             k3 <|
             k4 <|
             k5 <|
             k6 <|
             k7 <|
             k8 <|
             k9 <|
             yy 92 (vt) <|
             ww (p := (Value.bool (!c11_)) = (Value.bool true)) (vBn (Bool.eq_false_iff.2 hc12)) <|
             ee) (by kernel_rfl)
       ·rw [if_neg hc7] at h
        have k6 := fun {A L l} (k : PL A L l) => zz 40 (xeF hc7) <|
         k
        by_cases hc8 : a1 = (6 : Int)
        ·rw [if_pos hc8] at h
         have k7 := fun {A L l} (k : PL A L l) => zz 45 (xeT hc8) <|
          k
         by_cases hc9 : a3 < a2
         ·rw [if_pos hc9] at h
          obtain rfl := oI h
          exact runF2 hm (kW [2] [] 0 0) (k0 <|
           k1 <|
           k2 <|
           k3 <|
           k4 <|
           k5 <|
           k6 <|
           k7 <|
           zz 56 (xdT hc9) <|
           ee) (by kernel_rfl)
         ·rw [if_neg hc9] at h
          have k8 := fun {A L l} (k : PL A L l) => zz 56 (xdF hc9) <|
           k
          by_cases hc10 : a3 > a4
          ·rw [if_pos hc10] at h
           obtain rfl := oI h
           exact runF2 hm (kW [2] [] 0 0) (k0 <|
            k1 <|
            k2 <|
            k3 <|
            k4 <|
            k5 <|
            k6 <|
            k7 <|
            k8 <|
            zz 62 (xdT hc10) <|
            ee) (by kernel_rfl)
          ·rw [if_neg hc10] at h
           have k9 := fun {A L l} (k : PL A L l) => zz 62 (xdF hc10) <|
            k
           by_cases hc11 : a1 = (4 : Int)
           ·rw [if_pos hc11] at h
            have k10 := fun {A L l} (k : PL A L l) => zz 80 (xnF hc11) <|
             k
            by_cases hc12 : a2 = a4
            ·rw [if_pos hc12] at h
             obtain ⟨c13_, hc13, h⟩ := oB h
             have k11 := fun {A L l} (k : PL A L l) => zz 86 (xeT hc12) <|
              yy 91 (.call (q7_ a1 c13_ [] [])) <|
              ww (qq_ n a1 c13_ hc13) <|
              k
             by_cases hc14 : c13_ = true
             ·rw [if_pos hc14] at h
              have k14 := fun {A L l} (k : PL A L l) => yy 92 (vf) <|
               ww (p := (Value.bool (!c13_)) = (Value.bool false)) (vBn hc14) <|
               k
              by_cases hc15 : (((a6).l.length : Nat) : Int) = (0 : Int)
              ·rw [if_pos hc15] at h
               obtain rfl := oI h
               exact runF2 hm (kW [2] [] 0 0) (k0 <|
                k1 <|
                k2 <|
                k3 <|
                k4 <|
                k5 <|
                k6 <|
                k7 <|
                k8 <|
                k9 <|
                k10 <|
                k11 <|
                k14 <|
                zz 97 (xeT hc15) <|
                ee) (by kernel_rfl)
              ·rw [if_neg hc15] at h
               obtain rfl := oI h
               exact runF2 hm (kW [2] [] 0 0) (k0 <|
                k1 <|
                k2 <|
                k3 <|
                k4 <|
                k5 <|
                k6 <|
                k7 <|
                k8 <|
                k9 <|
                k10 <|
                k11 <|
                k14 <|
                zz 97 (xeF hc15) <|
                ee) (by kernel_rfl)
             ·rw [if_neg hc14] at h
              obtain rfl := oI h
              exact runF2 hm (kW [2] [] 0 0) (k0 <|
               k1 <|
               k2 <|
               k3 <|
               k4 <|
               k5 <|
               k6 <|
               k7 <|
               k8 <|
               k9 <|
               k10 <|
               k11 <|
               yy 92 (vt) <|
               ww (p := (Value.bool (!c13_)) = (Value.bool true)) (vBn (Bool.eq_false_iff.2 hc14)) <|
               ee) (by kernel_rfl)
            ·rw [if_neg hc12] at h
             obtain rfl := oI h
             exact runF2 hm (kW [2] [] 0 0) (k0 <|
              k1 <|
              k2 <|
              k3 <|
              k4 <|
              k5 <|
              k6 <|
              k7 <|
              k8 <|
              k9 <|
              k10 <|
              zz 86 (xeF hc12) <|
              ee) (by kernel_rfl)
           ·rw [if_neg hc11] at h
            obtain ⟨c12_, hc12, h⟩ := oB h
            have k10 := fun {A L l} (k : PL A L l) => zz 80 (xnT hc11) <|
             yy 91 (.call (q7_ a1 c12_ [] [])) <|
             ww (qq_ n a1 c12_ hc12) <|
             k
            by_cases hc13 : c12_ = true
            ·rw [if_pos hc13] at h
             have k13 := fun {A L l} (k : PL A L l) => yy 92 (vf) <|
              ww (p := (Value.bool (!c12_)) = (Value.bool false)) (vBn hc13) <|
              k
             by_cases hc14 : (((a6).l.length : Nat) : Int) = (0 : Int)
             ·rw [if_pos hc14] at h
              obtain rfl := oI h
              exact runF2 hm (kW [2] [] 0 0) (k0 <|
               k1 <|
               k2 <|
               k3 <|
               k4 <|
               k5 <|
               k6 <|
               k7 <|
               k8 <|
               k9 <|
               k10 <|
               k13 <|
               zz 97 (xeT hc14) <|
               ee) (by kernel_rfl)
             ·rw [if_neg hc14] at h
              obtain rfl := oI h
              exact runF2 hm (kW [2] [] 0 0) (k0 <|
               k1 <|
               k2 <|
               k3 <|
               k4 <|
               k5 <|
               k6 <|
               k7 <|
               k8 <|
               k9 <|
               k10 <|
               k13 <|
               zz 97 (xeF hc14) <|
               ee) (by kernel_rfl)
            ·rw [if_neg hc13] at h
             obtain rfl := oI h
             exact runF2 hm (kW [2] [] 0 0) (k0 <|
              k1 <|
              k2 <|
              k3 <|
              k4 <|
              k5 <|
              k6 <|
              k7 <|
              k8 <|
              k9 <|
              k10 <|
              yy 92 (vt) <|
              ww (p := (Value.bool (!c12_)) = (Value.bool true)) (vBn (Bool.eq_false_iff.2 hc13)) <|
              ee) (by kernel_rfl)
        ·rw [if_neg hc8] at h
         have k7 := fun {A L l} (k : PL A L l) => zz 45 (xeF hc8) <|
          k
         by_cases hc9 : a3 = a2
         ·rw [if_pos hc9] at h
          have k8 := fun {A L l} (k : PL A L l) => zz 73 (xnF hc9) <|
           k
          by_cases hc10 : a1 = (4 : Int)
          ·rw [if_pos hc10] at h
           have k9 := fun {A L l} (k : PL A L l) => zz 80 (xnF hc10) <|
            k
           by_cases hc11 : a2 = a4
           ·rw [if_pos hc11] at h
            obtain ⟨c12_, hc12, h⟩ := oB h
            have k10 := fun {A L l} (k : PL A L l) => zz 86 (xeT hc11) <|
             yy 91 (.call (q7_ a1 c12_ [] [])) <|
             ww (qq_ n a1 c12_ hc12) <|
             k
            by_cases hc13 : c12_ = true
            ·rw [if_pos hc13] at h
             have k13 := fun {A L l} (k : PL A L l) => yy 92 (vf) <|
              ww (p := (Value.bool (!c12_)) = (Value.bool false)) (vBn hc13) <|
              k
             by_cases hc14 : (((a6).l.length : Nat) : Int) = (0 : Int)
             ·rw [if_pos hc14] at h
              obtain rfl := oI h
              exact runF2 hm (kW [2] [] 0 0) (k0 <|
               k1 <|
               k2 <|
               k3 <|
               k4 <|
               k5 <|
               k6 <|
               k7 <|
               k8 <|
               k9 <|
               k10 <|
               k13 <|
               zz 97 (xeT hc14) <|
               ee) (by kernel_rfl)
             ·rw [if_neg hc14] at h
              obtain rfl := oI h
              exact runF2 hm (kW [2] [] 0 0) (k0 <|
               k1 <|
               k2 <|
               k3 <|
               k4 <|
               k5 <|
               k6 <|
               k7 <|
               k8 <|
               k9 <|
               k10 <|
               k13 <|
               zz 97 (xeF hc14) <|
               ee) (by kernel_rfl)
            ·rw [if_neg hc13] at h
             obtain rfl := oI h
             exact runF2 hm (kW [2] [] 0 0) (k0 <|
              k1 <|
              k2 <|
              k3 <|
              k4 <|
              k5 <|
              k6 <|
              k7 <|
              k8 <|
              k9 <|
              k10 <|
              yy 92 (vt) <|
              ww (p := (Value.bool (!c12_)) = (Value.bool true)) (vBn (Bool.eq_false_iff.2 hc13)) <|
              ee) (by kernel_rfl)
           ·rw [if_neg hc11] at h
            obtain rfl := oI h
            exact runF2 hm (kW [2] [] 0 0) (k0 <|
             k1 <|
             k2 <|
             k3 <|
             k4 <|
             k5 <|
             k6 <|
             k7 <|
             k8 <|
             k9 <|
             zz 86 (xeF hc11) <|
             ee) (by kernel_rfl)
          ·rw [if_neg hc10] at h
           obtain ⟨c11_, hc11, h⟩ := oB h
           have k9 := fun {A L l} (k : PL A L l) => zz 80 (xnT hc10) <|
            yy 91 (.call (q7_ a1 c11_ [] [])) <|
            ww (qq_ n a1 c11_ hc11) <|
            k
           by_cases hc12 : c11_ = true
           ·rw [if_pos hc12] at h
            have k12 := fun {A L l} (k : PL A L l) => yy 92 (vf) <|
             ww (p := (Value.bool (!c11_)) = (Value.bool false)) (vBn hc12) <|
             k
            by_cases hc13 : (((a6).l.length : Nat) : Int) = (0 : Int)
            ·rw [if_pos hc13] at h
             obtain rfl := oI h
             exact runF2 hm (kW [2] [] 0 0) (k0 <|
              k1 <|
              k2 <|
              k3 <|
              k4 <|
              k5 <|
              k6 <|
              k7 <|
              k8 <|
              k9 <|
              k12 <|
              zz 97 (xeT hc13) <|
              ee) (by kernel_rfl)
            ·rw [if_neg hc13] at h
             obtain rfl := oI h
             exact runF2 hm (kW [2] [] 0 0) (k0 <|
              k1 <|
              k2 <|
              k3 <|
              k4 <|
              k5 <|
              k6 <|
              k7 <|
              k8 <|
              k9 <|
              k12 <|
              zz 97 (xeF hc13) <|
              ee) (by kernel_rfl)
           ·rw [if_neg hc12] at h
            obtain rfl := oI h
            exact runF2 hm (kW [2] [] 0 0) (k0 <|
             k1 <|
             k2 <|
             k3 <|
             k4 <|
             k5 <|
             k6 <|
             k7 <|
             k8 <|
             k9 <|
             yy 92 (vt) <|
             ww (p := (Value.bool (!c11_)) = (Value.bool true)) (vBn (Bool.eq_false_iff.2 hc12)) <|
             ee) (by kernel_rfl)
         ·rw [if_neg hc9] at h
          obtain rfl := oI h
          exact runF2 hm (kW [2] [] 0 0) (k0 <|
           k1 <|
           k2 <|
           k3 <|
           k4 <|
           k5 <|
           k6 <|
           k7 <|
           zz 73 (xnT hc9) <|
           ee) (by kernel_rfl)


end Go.Proofs.Ytbligeacgkhljaa.rca21
