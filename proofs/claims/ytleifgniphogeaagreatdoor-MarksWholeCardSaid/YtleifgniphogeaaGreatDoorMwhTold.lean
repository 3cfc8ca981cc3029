/-
  What functions do, told by pure functions. No condition.
-/
import Derived.Test.YtleifgniphogeaaGreatDoorMwhBTold
set_option linter.unusedSimpArgs false
set_option linter.unusedVariables false
set_option linter.unusedSectionVars false
set_option linter.unnecessarySimpa false
set_option maxRecDepth 100000
noncomputable section
namespace Go.Proofs.YtleifgniphogeaaGreatDoor.mwh19
open Go Go.Proofs.YtleifgniphogeaaGreatDoor Ax
variable [Args]
def qhg_ (a0:List R8)(a1:Nat):List Value:=[(sN 0 0 a1 (Nat.add big 8))]
def qhh_ (a0:List R8)(a1:Nat):AH:=⟨sB [(0,(some (.cells (layT (rows rw_iiiiiiLu a0)) 35)))],1,1⟩
def qee_ (a0:List R8)(a1:Nat)(r:Unit):Value:=match r with
 | _=>(Value.func (.func 66) #[] #[(pN 1 0)])
def qef_ (a0:List R8)(a1:Nat)(r:Unit):AH:=match r with
 | _=>⟨sB [(0,(some (.cells (layT (rows rw_iiiiiiLu a0)) 35))),(1,(some (.cells (layT [(sN 0 0 a1 (Nat.add big 8))]) 22)))],2,1⟩
abbrev qu0_ (a0:List R8)(a1:Nat)(r:Unit):Prop:=Gv P (.func 38) (qhg_ a0 a1) (qhh_ a0 a1) (qee_ a0 a1 r) (qef_ a0 a1 r)
abbrev ql1_ (a0:List R8)(a1:Nat)(r:Unit)(ins outs:BL):CallA:=⟨1,ins,qee_ a0 a1 r,qef_ a0 a1 r,outs⟩
def qc4_ (n:Nat)(a0:List R8)(a1:Nat):Option (Unit):=
 some ()
theorem qkk_ (n:Nat)(a0:List R8)(a1:Nat)(r:Unit)(h:qc4_ n a0 a1=some r):Gv P (.func 38) (qhg_ a0 a1) (qhh_ a0 a1) (qee_ a0 a1 r) (qef_ a0 a1 r):=by
 unfold qc4_ at h
 obtain rfl:=oI h
 exact runF2 hm ⟨[2],[(0,0,true),(1,1,false)],2,1,[],false,[],[],[]⟩ (ww (qa_ rwf_iiiiiiLu a0 35) <|
  ee) (by kernel_rfl)

def qp0_ (a0:Int)(a1:List (Bool))(a2 a3:Nat):List Value:=[(i6 a0),(pN 0 0)]
def qp1_ (a0:Int)(a1:List (Bool))(a2 a3:Nat):AH:=⟨sB [(0,(some (.cells (layT [(sN 1 0 a2 a3)]) 53))),(1,(some (.cells (layT (rows rw_b a1)) 4)))],2,2⟩
def qmm_ (a0:Int)(a1:List (Bool))(a2 a3:Nat)(r:Bool):Value:=match r with
 | o0=>(bO o0)
def qmn_ (a0:Int)(a1:List (Bool))(a2 a3:Nat)(r:Bool):AH:=match r with
 | o0=>⟨sB [],2,2⟩
abbrev G_treeStale1q1 (a0:Int)(a1:List (Bool))(a2 a3:Nat)(r:Bool):Prop:=Gv P (.func 40) (qp0_ a0 a1 a2 a3) (qp1_ a0 a1 a2 a3) (qmm_ a0 a1 a2 a3 r) (qmn_ a0 a1 a2 a3 r)
abbrev qwf_ (a0:Int)(a1:List (Bool))(a2 a3:Nat)(r:Bool)(ins outs:BL):CallA:=⟨2,ins,qmm_ a0 a1 a2 a3 r,qmn_ a0 a1 a2 a3 r,outs⟩
def qh0_ (n:Nat)(a0:Int)(a1:List (Bool))(a2 a3:Nat):Option (Bool):=
 if 0≤a0∧a0<((a2:Nat):Int) then
  if (a0).toNat<(a1).length then
   ((some ((a1).getD (a0).toNat (false)))).bind fun c3_=>
   some c3_
  else none
 else none
theorem qrp_ (n:Nat)(a0:Int)(a1:List (Bool))(a2 a3:Nat)(r:Bool)(h:qh0_ n a0 a1 a2 a3=some r):Gv P (.func 40) (qp0_ a0 a1 a2 a3) (qp1_ a0 a1 a2 a3) (qmm_ a0 a1 a2 a3 r) (qmn_ a0 a1 a2 a3 r):=by
 unfold qh0_ at h
 obtain⟨hc1,h⟩:=gd h
 obtain⟨hc2,h⟩:=gd h
 obtain⟨c3_,hc3,h⟩:=oB h
 obtain rfl:=oI h
 exact runF2 hm ⟨[3],[],2,2,[],false,[],[],[]⟩ (zz 5 (xk22 1 a3 hc1) <|
  zz 6 (ok23 hc3 (hc2)) <|
  ee) (by kernel_rfl)

def qhi_ (a0:NL)(a1:List (Bool))(a2 a3:Nat):List Value:=[(nlV a0),(Value.func (.func 40) #[] #[(pN 0 0)])]
def qhj_ (a0:NL)(a1:List (Bool))(a2 a3:Nat):AH:=⟨sB [(0,(some (.cells (layT [(sN 1 0 a2 a3)]) 53))),(1,(some (.cells (layT (rows rw_b a1)) 4)))],2,2⟩
def qeg_ (a0:NL)(a1:List (Bool))(a2 a3:Nat)(r:Int):Value:=match r with
 | o0=>(i6 o0)
def qeh_ (a0:NL)(a1:List (Bool))(a2 a3:Nat)(r:Int):AH:=match r with
 | o0=>⟨sB [],2,2⟩
abbrev qu1_ (a0:NL)(a1:List (Bool))(a2 a3:Nat)(r:Int):Prop:=Gv P (.func 67) (qhi_ a0 a1 a2 a3) (qhj_ a0 a1 a2 a3) (qeg_ a0 a1 a2 a3 r) (qeh_ a0 a1 a2 a3 r)
abbrev ql2_ (a0:NL)(a1:List (Bool))(a2 a3:Nat)(r:Int)(ins outs:BL):CallA:=⟨2,ins,qeg_ a0 a1 a2 a3 r,qeh_ a0 a1 a2 a3 r,outs⟩
def qbq_ (x0:List (Bool))(x1 x2:Nat)(x3:NL)(x4 st:Int):XSt:=match st with
 | x5=>(sT 19 [(0,(nlV x3)),(1,(Value.func (.func 40) #[] #[(pN 0 0)])),(7,(i6 x4)),(8,(i6 x5))],[],⟨sB [(0,(some (.cells (layT [(sN 1 0 x1 x2)]) 53))),(1,(some (.cells (layT (rows rw_b x0)) 4)))],2,2⟩)
def qt_ (x0:List (Bool))(x1 x2:Nat)(x3:NL)(x4:Int)(r:(Int) ⊕ (Unit)):Ex×XSt:=match r with
 | .inl z0=>(.ret,(sT 19 [(4,(i6 z0))],[],⟨sB [(0,(some (.cells (layT [(sN 1 0 x1 x2)]) 53))),(1,(some (.cells (layT (rows rw_b x0)) 4)))],2,2⟩))
 | .inr _=>(.exit 0,(sT 19 [],[],⟨sB [(0,(some (.cells (layT [(sN 1 0 x1 x2)]) 53))),(1,(some (.cells (layT (rows rw_b x0)) 4)))],2,2⟩))
abbrev qtv_ (rnd:Option Nat)(x0:List (Bool))(x1 x2:Nat)(x3:NL)(x4 st:Int)(c:Ex×XSt):Prop:=CG P rnd (fnN P 67) 2 (qo_ P 67 [false,false,true,false,true]) (qbq_ x0 x1 x2 x3 x4 st) c
def qm_ (n:Nat)(x0:List (Bool))(x1 x2:Nat)(x3:NL)(x4 st:Int):Option ((Int) ⊕ ((Int) ⊕ (Unit))):=match st with
 | x5=>
  if x5<x4 then
   if 0≤x5∧x5<(((x3).l.length:Nat):Int) then
    if (x5).toNat<((x3).l).length then
     ((some (((x3).l).getD (x5).toNat 0))).bind fun y4_=>
     (qh0_ n y4_ x0 x1 x2).bind fun y5_=>
     if y5_=true then
      some (.inr (.inl x5))
     else
      some (.inl (w64 (x5+1)))
    else none
   else none
  else
   some (.inr (.inr ()))
def qco_ (n:Nat)(x0:List (Bool))(x1 x2:Nat)(x3:NL)(x4 st:Int):Option ((Int) ⊕ (Unit)):=iterM (qm_ n x0 x1 x2 x3 x4) n st
theorem qf8_ (n:Nat){rnd:Option Nat}(x0:List (Bool))(x1 x2:Nat)(x3:NL)(x4 x5:Int)(o:(Int) ⊕ ((Int) ⊕ (Unit)))(h:qm_ n x0 x1 x2 x3 x4 x5=some o):CG P rnd (fnN P 67) 2 (qo_ P 67 [false,false,true,false,true]) (qbq_ x0 x1 x2 x3 x4 x5) (Sum.elim (fun s=>(.normal,qbq_ x0 x1 x2 x3 x4 s)) (fun r=>qt_ x0 x1 x2 x3 x4 r) o):=by
 unfold qm_ at h
 dsimp only at h
 by_cases hy1:x5<x4
 ·rw[if_pos hy1] at h
  obtain⟨hy2,h⟩:=gd h
  obtain⟨hy3,h⟩:=gd h
  obtain⟨y4_,hy4,h⟩:=oB h
  obtain⟨y5_,hy5,h⟩:=oB h
  have k0:=fun {A L l} (k:PL A L l)=>zz 1 (xdT hy1) <|
   zz 13 (xk9 (Nat.add (x3).num 64) (x3).off (x3).cap hy2) <|
   zz 14 (nk10 hy4 hy3) <|
   yy 15 (.call (qwf_ y4_ x0 x1 x2 y5_ [(0,0,false),(1,1,true)] [])) <|
   ww (qrp_ n y4_ x0 x1 x2 y5_ hy5) <|
   ww (qa_ rwf_b x0 4) <|
   k
  by_cases hy6:y5_=true
  ·rw[if_pos hy6] at h
   obtain rfl:=oI h
   exact runC2 hm ⟨[4],[(0,0,false),(1,1,true)],2,2,[],false,[],[],[]⟩ (k0 <|
    zz 16 (xbT hy6) <|
    ww (qa_ rwf_b x0 4) <|
    ee) (by kernel_rfl)
  ·rw[if_neg hy6] at h
   obtain rfl:=oI h
   exact runC2 hm ⟨[0,1,7,8],[(0,0,false),(1,1,true)],2,2,[],false,[],[],[]⟩ (k0 <|
    zz 16 (xbF hy6) <|
    ww (qa_ rwf_b x0 4) <|
    ee) (by kernel_rfl)
 ·rw[if_neg hy1] at h
  obtain rfl:=oI h
  exact runC2 hm ⟨[],[(0,0,false),(1,1,true)],2,2,[],false,[],[],[]⟩ (zz 1 (xdF hy1) <|
   ww (qa_ rwf_b x0 4) <|
   ee) (by kernel_rfl)
theorem qe1_ (n:Nat){rnd:Option Nat}(x0:List (Bool))(x1 x2:Nat)(x3:NL)(x4 st:Int)(r:(Int) ⊕ (Unit))(h:qco_ n x0 x1 x2 x3 x4 st=some r):CG P rnd (fnN P 67) 2 (qo_ P 67 [false,true,false,true]) (qbq_ x0 x1 x2 x3 x4 st) (qt_ x0 x1 x2 x3 x4 r):=
 CG.iter (b:=qo_ P 67 [false,false,true,false,true]) (by kernel_rfl) (body:=qm_ n x0 x1 x2 x3 x4) (S:=qbq_ x0 x1 x2 x3 x4) (X:=qt_ x0 x1 x2 x3 x4)
  (fun s s' h=>qf8_ n x0 x1 x2 x3 x4 s (.inl s') h)
  (fun s r h=>qf8_ n x0 x1 x2 x3 x4 s (.inr r) h)
  (fun r=>by intro hx; rcases r with _ | _<;>cases hx) h
def qc5_ (n:Nat)(a0:NL)(a1:List (Bool))(a2 a3:Nat):Option (Int):=
 match qco_ n a1 a2 a3 a0 (((a0).l.length:Nat):Int) 0 with
 | none=>none
 | some (.inl c1_)=>
  some c1_
 | some (.inr _)=>
  some (-1)
theorem qkl_ (n:Nat)(a0:NL)(a1:List (Bool))(a2 a3:Nat)(r:Int)(h:qc5_ n a0 a1 a2 a3=some r):Gv P (.func 67) (qhi_ a0 a1 a2 a3) (qhj_ a0 a1 a2 a3) (qeg_ a0 a1 a2 a3 r) (qeh_ a0 a1 a2 a3 r):=by
 unfold qc5_ at h
 rcases hc1:qco_ n a1 a2 a3 a0 (((a0).l.length:Nat):Int) 0 with _ | (c1_ | ⟨⟩)
 ·rw[hc1] at h; cases h
 ·rw[hc1] at h
  dsimp only at h
  obtain rfl:=oI h
  exact runF2 hm ⟨[4],[],2,2,[],false,[],[],[]⟩ (ww (qe1_ n (rnd:=none) a1 a2 a3 a0 (((a0).l.length:Nat):Int) 0 (.inl c1_) hc1) <|
   ww (qa_ rwf_b a1 4) <|
   ll 8 ⟨⟨[0,1,7,8],[(0,0,false),(1,1,true)],2,2,[],false,[],[],[]⟩,(qt_ a1 a2 a3 a0 (((a0).l.length:Nat):Int) (.inl c1_)).1,(qt_ a1 a2 a3 a0 (((a0).l.length:Nat):Int) (.inl c1_)).2⟩ <|
   ee) (by kernel_rfl)
 ·rw[hc1] at h
  dsimp only at h
  obtain rfl:=oI h
  exact runF2 hm ⟨[4],[],2,2,[],false,[],[],[]⟩ (ww (qe1_ n (rnd:=none) a1 a2 a3 a0 (((a0).l.length:Nat):Int) 0 (.inr ()) hc1) <|
   ww (qa_ rwf_b a1 4) <|
   ll 8 ⟨⟨[0,1,7,8],[(0,0,false),(1,1,true)],2,2,[],false,[],[],[]⟩,(qt_ a1 a2 a3 a0 (((a0).l.length:Nat):Int) (.inr ())).1,(qt_ a1 a2 a3 a0 (((a0).l.length:Nat):Int) (.inr ())).2⟩ <|
   ee) (by kernel_rfl)

def qfo_ (a0:NL)(a1:List (Bool))(a2 a3:Nat):List Value:=[(nlV a0),(Value.func (.func 40) #[] #[(pN 0 0)])]
def qfp_ (a0:NL)(a1:List (Bool))(a2 a3:Nat):AH:=⟨sB [(0,(some (.cells (layT [(sN 1 0 a2 a3)]) 53))),(1,(some (.cells (layT (rows rw_b a1)) 4)))],2,2⟩
def qdn_ (a0:NL)(a1:List (Bool))(a2 a3:Nat)(r:Bool):Value:=match r with
 | o0=>(bO o0)
def qdo_ (a0:NL)(a1:List (Bool))(a2 a3:Nat)(r:Bool):AH:=match r with
 | o0=>⟨sB [],2,2⟩
abbrev qto_ (a0:NL)(a1:List (Bool))(a2 a3:Nat)(r:Bool):Prop:=Gv P (.func 39) (qfo_ a0 a1 a2 a3) (qfp_ a0 a1 a2 a3) (qdn_ a0 a1 a2 a3 r) (qdo_ a0 a1 a2 a3 r)
abbrev qkm_ (a0:NL)(a1:List (Bool))(a2 a3:Nat)(r:Bool)(ins outs:BL):CallA:=⟨2,ins,qdn_ a0 a1 a2 a3 r,qdo_ a0 a1 a2 a3 r,outs⟩
def qbi_ (n:Nat)(a0:NL)(a1:List (Bool))(a2 a3:Nat):Option (Bool):=
 (qc5_ n a0 a1 a2 a3).bind fun c1_=>
 if c1_ ≥ 0 then
  some true
 else
  some false
theorem qi2_ (n:Nat)(a0:NL)(a1:List (Bool))(a2 a3:Nat)(r:Bool)(h:qbi_ n a0 a1 a2 a3=some r):Gv P (.func 39) (qfo_ a0 a1 a2 a3) (qfp_ a0 a1 a2 a3) (qdn_ a0 a1 a2 a3 r) (qdo_ a0 a1 a2 a3 r):=by
 unfold qbi_ at h
 obtain⟨c1_,hc1,h⟩:=oB h
 have k0:=fun {A L l} (k:PL A L l)=>yy 5 (.call (ql2_ a0 a1 a2 a3 c1_ [(0,0,false),(1,1,true)] [])) <|
  ww (qkl_ n a0 a1 a2 a3 c1_ hc1) <|
  ww (qa_ rwf_b a1 4) <|
  k
 by_cases hc2:c1_ ≥ 0
 ·rw[if_pos hc2] at h
  obtain rfl:=oI h
  exact runF2 hm ⟨[4],[],2,2,[],false,[],[],[]⟩ (k0 <|
   zz 6 (xdT hc2) <|
   ee) (by kernel_rfl)
 ·rw[if_neg hc2] at h
  obtain rfl:=oI h
  exact runF2 hm ⟨[4],[],2,2,[],false,[],[],[]⟩ (k0 <|
   zz 6 (xdF hc2) <|
   ee) (by kernel_rfl)

def qkn_ (a0:List (Bool))(a1 a2:Nat)(a3:List R8)(a4:Nat)(a5 a6 a7 a8 a9 a10 a11:Int)(a12:NL)(a13:Int):List Value:=[(i6 a5),(Value.agg #[(i6 a6),(i6 a7),(i6 a8),(i6 a9),(i6 a10),(i6 a11),(nlV a12),(Value.int .u64 a13)])]
def qko_ (a0:List (Bool))(a1 a2:Nat)(a3:List R8)(a4:Nat)(a5 a6 a7 a8 a9 a10 a11:Int)(a12:NL)(a13:Int):AH:=⟨sB [(0,(some (rblk P 19 [false,true,false,true,true,true] .ready none [(3,(pN 2 0)),(13,(Value.func (.func 66) #[] #[(pN 4 0)]))] 1))),(1,(some (.marks true))),(2,(some (.cells (layT [(sN 3 0 a1 a2)]) 53))),(3,(some (.cells (layT (rows rw_b a0)) 4))),(4,(some (.cells (layT [(sN 5 0 a4 (Nat.add big 8))]) 22))),(5,(some (.cells (layT (rows rw_iiiiiiLu a3)) 35)))],6,6⟩
def qg2_ (a0:List (Bool))(a1 a2:Nat)(a3:List R8)(a4:Nat)(a5 a6 a7 a8 a9 a10 a11:Int)(a12:NL)(a13:Int)(r:List (Bool)):Value:=match r with
 | o0=>(bO true)
def qg3_ (a0:List (Bool))(a1 a2:Nat)(a3:List R8)(a4:Nat)(a5 a6 a7 a8 a9 a10 a11:Int)(a12:NL)(a13:Int)(r:List (Bool)):AH:=match r with
 | o0=>⟨sB [(0,(some (rblk P 19 [false,true,false,true,true,true] .ready none [(3,(pN 2 0)),(13,(Value.func (.func 66) #[] #[(pN 4 0)]))] 1))),(1,(some (.marks true))),(2,(some (.cells (layT [(sN 3 0 a1 a2)]) 53))),(3,(some (.cells (layT (rows rw_b o0)) 4))),(4,(some (.cells (layT [(sN 5 0 a4 (Nat.add big 8))]) 22))),(5,(some (.cells (layT (rows rw_iiiiiiLu a3)) 35)))],6,0⟩
abbrev G_treeStale_111010y1 (a0:List (Bool))(a1 a2:Nat)(a3:List R8)(a4:Nat)(a5 a6 a7 a8 a9 a10 a11:Int)(a12:NL)(a13:Int)(r:List (Bool)):Prop:=Gv P (.yield 0) (qkn_ a0 a1 a2 a3 a4 a5 a6 a7 a8 a9 a10 a11 a12 a13) (qko_ a0 a1 a2 a3 a4 a5 a6 a7 a8 a9 a10 a11 a12 a13) (qg2_ a0 a1 a2 a3 a4 a5 a6 a7 a8 a9 a10 a11 a12 a13 r) (qg3_ a0 a1 a2 a3 a4 a5 a6 a7 a8 a9 a10 a11 a12 a13 r)
abbrev qo6_ (a0:List (Bool))(a1 a2:Nat)(a3:List R8)(a4:Nat)(a5 a6 a7 a8 a9 a10 a11:Int)(a12:NL)(a13:Int)(r:List (Bool))(ins outs:BL):CallA:=⟨6,ins,qg2_ a0 a1 a2 a3 a4 a5 a6 a7 a8 a9 a10 a11 a12 a13 r,qg3_ a0 a1 a2 a3 a4 a5 a6 a7 a8 a9 a10 a11 a12 a13 r,outs⟩
def qdp_ (n:Nat)(a0:List (Bool))(a1 a2:Nat)(a3:List R8)(a4:Nat)(a5 a6 a7 a8 a9 a10 a11:Int)(a12:NL)(a13:Int):Option (List (Bool)):=
 if a13=0 then
  (qbi_ n a12 a0 a1 a2).bind fun c2_=>
  if 0≤a5∧a5<((a1:Nat):Int) then
   if (a5).toNat<(a0).length then
    some ((a0).set (a5).toNat c2_)
   else none
  else none
 else
  if 0≤a5∧a5<((a1:Nat):Int) then
   if (a5).toNat<(a0).length then
    some ((a0).set (a5).toNat true)
   else none
  else none
theorem qm1_ (n:Nat)(a0:List (Bool))(a1 a2:Nat)(a3:List R8)(a4:Nat)(a5 a6 a7 a8 a9 a10 a11:Int)(a12:NL)(a13:Int)(r:List (Bool))(h:qdp_ n a0 a1 a2 a3 a4 a5 a6 a7 a8 a9 a10 a11 a12 a13=some r):Gv P (.yield 0) (qkn_ a0 a1 a2 a3 a4 a5 a6 a7 a8 a9 a10 a11 a12 a13) (qko_ a0 a1 a2 a3 a4 a5 a6 a7 a8 a9 a10 a11 a12 a13) (qg2_ a0 a1 a2 a3 a4 a5 a6 a7 a8 a9 a10 a11 a12 a13 r) (qg3_ a0 a1 a2 a3 a4 a5 a6 a7 a8 a9 a10 a11 a12 a13 r):=by
 unfold qdp_ at h
 by_cases hc1:a13=0
 ·rw[if_pos hc1] at h
  obtain⟨c2_,hc2,h⟩:=oB h
  obtain⟨hc3,h⟩:=gd h
  obtain⟨hc4,h⟩:=gd h
  obtain rfl:=oI h
  exact runY2 hm ⟨[],[(0,0,false),(1,1,false),(2,2,false),(3,3,true),(4,4,false),(5,5,true)],6,0,[],false,[],[],[]⟩ (ee) (zz 5 (xnF hc1) <|
   yy 10 (.call (qkm_ a12 a0 a1 a2 c2_ [(0,2,false),(1,3,true)] [])) <|
   ww (qi2_ n a12 a0 a1 a2 c2_ hc2) <|
   ww (qa_ rwf_b a0 4) <|
   zz 12 (xk22 3 a2 hc3) <|
   z2 13 (ste (k:=1) (qti_ rwf_b (false) (i:=(a5).toNat) (j:=0) (l:=[(bO c2_)]) c2_ ((a5).toNat*1) rfl (hc4) (Nat.le_of_ble_eq_true rfl) rfl)) <|
   ww (qa_ rwf_b ((a0).set (a5).toNat c2_) 4) <|
   ww (qa_ rwf_iiiiiiLu a3 35) <|
   ee) (by kernel_rfl)
 ·rw[if_neg hc1] at h
  obtain⟨hc2,h⟩:=gd h
  obtain⟨hc3,h⟩:=gd h
  obtain rfl:=oI h
  exact runY2 hm ⟨[],[(0,0,false),(1,1,false),(2,2,false),(3,3,true),(4,4,false),(5,5,true)],6,0,[],false,[],[],[]⟩ (ee) (zz 5 (xnT hc1) <|
   zz 12 (xk22 3 a2 hc2) <|
   z2 13 (ste (k:=1) (qti_ rwf_b (false) (i:=(a5).toNat) (j:=0) (l:=[(bO true)]) true ((a5).toNat*1) rfl (hc3) (Nat.le_of_ble_eq_true rfl) rfl)) <|
   ww (qa_ rwf_b ((a0).set (a5).toNat true) 4) <|
   ww (qa_ rwf_iiiiiiLu a3 35) <|
   ee) (by kernel_rfl)

def qgt_ (a0:List (Bool))(a1 a2:Nat)(a3:List R8)(a4:Nat):List Value:=[(Value.func (.yield 0) #[] #[]),(pN 4 0)]
def qgu_ (a0:List (Bool))(a1 a2:Nat)(a3:List R8)(a4:Nat):AH:=⟨sB [(0,(some (rblk P 19 [false,true,false,true,true,true] .ready none [(3,(pN 2 0)),(13,(Value.func (.func 66) #[] #[(pN 4 0)]))] 1))),(1,(some (.marks true))),(2,(some (.cells (layT [(sN 3 0 a1 a2)]) 53))),(3,(some (.cells (layT (rows rw_b a0)) 4))),(4,(some (.cells (layT [(sN 5 0 a4 (Nat.add big 8))]) 22))),(5,(some (.cells (layT (rows rw_iiiiiiLu a3)) 35)))],6,6⟩
def qd4_ (a0:List (Bool))(a1 a2:Nat)(a3:List R8)(a4:Nat)(r:List (Bool)):Value:=match r with
 | o0=>(Value.tuple #[])
def qd5_ (a0:List (Bool))(a1 a2:Nat)(a3:List R8)(a4:Nat)(r:List (Bool)):AH:=match r with
 | o0=>⟨sB [(0,(some (rblk P 19 [false,true,false,true,true,true] .ready none [(3,(pN 2 0)),(13,(Value.func (.func 66) #[] #[(pN 4 0)]))] 1))),(1,(some (.marks true))),(2,(some (.cells (layT [(sN 3 0 a1 a2)]) 53))),(3,(some (.cells (layT (rows rw_b o0)) 4))),(4,(some (.cells (layT [(sN 5 0 a4 (Nat.add big 8))]) 22))),(5,(some (.cells (layT (rows rw_iiiiiiLu a3)) 35)))],6,0⟩
abbrev qt3_ (a0:List (Bool))(a1 a2:Nat)(a3:List R8)(a4:Nat)(r:List (Bool)):Prop:=Gv P (.func 66) (qgt_ a0 a1 a2 a3 a4) (qgu_ a0 a1 a2 a3 a4) (qd4_ a0 a1 a2 a3 a4 r) (qd5_ a0 a1 a2 a3 a4 r)
abbrev qlh_ (a0:List (Bool))(a1 a2:Nat)(a3:List R8)(a4:Nat)(r:List (Bool))(ins outs:BL):CallA:=⟨6,ins,qd4_ a0 a1 a2 a3 a4 r,qd5_ a0 a1 a2 a3 a4 r,outs⟩
def qbj_ (x1 x2:Nat)(x3:List R8)(x4:Nat)(st:List (Bool)×Int):XSt:=match st with
 | (x0,x5)=>(sT 19 [(0,(Value.func (.yield 0) #[] #[])),(1,(pN 4 0)),(3,(i6 x5))],[],⟨sB [(0,(some (rblk P 19 [false,true,false,true,true,true] .ready none [(3,(pN 2 0)),(13,(Value.func (.func 66) #[] #[(pN 4 0)]))] 1))),(1,(some (.marks true))),(2,(some (.cells (layT [(sN 3 0 x1 x2)]) 53))),(3,(some (.cells (layT (rows rw_b x0)) 4))),(4,(some (.cells (layT [(sN 5 0 x4 (Nat.add big 8))]) 22))),(5,(some (.cells (layT (rows rw_iiiiiiLu x3)) 35)))],6,0⟩)
def qbk_ (x1 x2:Nat)(x3:List R8)(x4:Nat)(r:List (Bool)):Ex×XSt:=match r with
 | z0=>(.exit 0,(sT 19 [],[],⟨sB [(0,(some (rblk P 19 [false,true,false,true,true,true] .ready none [(3,(pN 2 0)),(13,(Value.func (.func 66) #[] #[(pN 4 0)]))] 1))),(1,(some (.marks true))),(2,(some (.cells (layT [(sN 3 0 x1 x2)]) 53))),(3,(some (.cells (layT (rows rw_b z0)) 4))),(4,(some (.cells (layT [(sN 5 0 x4 (Nat.add big 8))]) 22))),(5,(some (.cells (layT (rows rw_iiiiiiLu x3)) 35)))],6,0⟩))
abbrev qtp_ (rnd:Option Nat)(x1 x2:Nat)(x3:List R8)(x4:Nat)(st:List (Bool)×Int)(c:Ex×XSt):Prop:=CG P rnd (fnN P 66) 6 (qo_ P 66 [false,false,true]) (qbj_ x1 x2 x3 x4 st) c
def qg_ (n x1 x2:Nat)(x3:List R8)(x4:Nat)(st:List (Bool)×Int):Option ((List (Bool)×Int) ⊕ (List (Bool))):=match st with
 | (x0,x5)=>
  if x5 ≥ 0 then
   if 0≤x5∧x5<((x4:Nat):Int) then
    if (x5).toNat<(x3).length then
     ((some ((x3).getD (x5).toNat (0,0,0,0,0,0,nl0,0)))).bind fun y4_=>
     (qdp_ n x0 x1 x2 x3 x4 x5 (y4_.1) (y4_.2.1) (y4_.2.2.1) (y4_.2.2.2.1) (y4_.2.2.2.2.1) (y4_.2.2.2.2.2.1) (y4_.2.2.2.2.2.2.1) (y4_.2.2.2.2.2.2.2)).bind fun y5_=>
     some (.inl (y5_,(w64 (x5-1))))
    else none
   else none
  else
   some (.inr x0)
def qdq_ (n x1 x2:Nat)(x3:List R8)(x4:Nat)(st:List (Bool)×Int):Option (List (Bool)):=iterM (qg_ n x1 x2 x3 x4) n st
theorem qfq_ (n:Nat){rnd:Option Nat}(x1 x2:Nat)(x3:List R8)(x4:Nat)(st:List (Bool)×Int)(o:(List (Bool)×Int) ⊕ (List (Bool)))(h:qg_ n x1 x2 x3 x4 st=some o):CG P rnd (fnN P 66) 6 (qo_ P 66 [false,false,true]) (qbj_ x1 x2 x3 x4 st) (Sum.elim (fun s=>(.normal,qbj_ x1 x2 x3 x4 s)) (fun r=>qbk_ x1 x2 x3 x4 r) o):=by
 obtain⟨x0,x5⟩:=st
 unfold qg_ at h
 dsimp only at h
 by_cases hy1:x5 ≥ 0
 ·rw[if_pos hy1] at h
  obtain⟨hy2,h⟩:=gd h
  obtain⟨hy3,h⟩:=gd h
  obtain⟨y4_,hy4,h⟩:=oB h
  obtain⟨y5_,hy5,h⟩:=oB h
  obtain rfl:=oI h
  exact runC2 hm ⟨[0,1,3],[(0,0,false),(1,1,false),(2,2,false),(3,3,true),(4,4,false),(5,5,true)],6,0,[],false,[],[],[]⟩ (zz 3 (xdT hy1) <|
   zz 12 (xk13 5 U8 hy2) <|
   yy 13 (.ld (Value.agg #[(i6 (y4_.1)),(i6 (y4_.2.1)),(i6 (y4_.2.2.1)),(i6 (y4_.2.2.2.1)),(i6 (y4_.2.2.2.2.1)),(i6 (y4_.2.2.2.2.2.1)),(nlV (y4_.2.2.2.2.2.2.1)),(Value.int .u64 (y4_.2.2.2.2.2.2.2))])) <|
   ww (p:=rdT (layT (rows rw_iiiiiiLu x3)) 8 ((x5).toNat*8)=some [(i6 (y4_.1)),(i6 (y4_.2.1)),(i6 (y4_.2.2.1)),(i6 (y4_.2.2.2.1)),(i6 (y4_.2.2.2.2.1)),(i6 (y4_.2.2.2.2.2.1)),(nlV (y4_.2.2.2.2.2.2.1)),(Value.int .u64 (y4_.2.2.2.2.2.2.2))]) (qjw_ rwf_iiiiiiLu (0,0,0,0,0,0,nl0,0) (hr:=hy4) (i:=(x5).toNat) (j:=0) ((x5).toNat*8) rfl (hy3) (by decide) rfl) <|
   yy 14 (.call (qo6_ x0 x1 x2 x3 x4 x5 (y4_.1) (y4_.2.1) (y4_.2.2.1) (y4_.2.2.2.1) (y4_.2.2.2.2.1) (y4_.2.2.2.2.2.1) (y4_.2.2.2.2.2.2.1) (y4_.2.2.2.2.2.2.2) y5_ [(0,0,false),(1,1,false),(2,2,false),(3,3,true),(4,4,false),(5,5,true)] [(0,0,false),(1,1,false),(2,2,false),(3,3,true),(4,4,false),(5,5,true)])) <|
   ww (qm1_ n x0 x1 x2 x3 x4 x5 (y4_.1) (y4_.2.1) (y4_.2.2.1) (y4_.2.2.2.1) (y4_.2.2.2.2.1) (y4_.2.2.2.2.2.1) (y4_.2.2.2.2.2.2.1) (y4_.2.2.2.2.2.2.2) y5_ hy5) <|
   ww (qa_ rwf_b x0 4) <|
   ww (qa_ rwf_iiiiiiLu x3 35) <|
   ww (qa_ rwf_b y5_ 4) <|
   ww (qa_ rwf_iiiiiiLu x3 35) <|
   ww (qa_ rwf_b y5_ 4) <|
   ww (qa_ rwf_iiiiiiLu x3 35) <|
   ee) (by kernel_rfl)
 ·rw[if_neg hy1] at h
  obtain rfl:=oI h
  exact runC2 hm ⟨[],[(0,0,false),(1,1,false),(2,2,false),(3,3,true),(4,4,false),(5,5,true)],6,0,[],false,[],[],[]⟩ (zz 3 (xdF hy1) <|
   ww (qa_ rwf_b x0 4) <|
   ww (qa_ rwf_iiiiiiLu x3 35) <|
   ee) (by kernel_rfl)
theorem qi3_ (n:Nat){rnd:Option Nat}(x1 x2:Nat)(x3:List R8)(x4:Nat)(st:List (Bool)×Int)(r:List (Bool))(h:qdq_ n x1 x2 x3 x4 st=some r):CG P rnd (fnN P 66) 6 (qo_ P 66 [false,true]) (qbj_ x1 x2 x3 x4 st) (qbk_ x1 x2 x3 x4 r):=
 CG.iter (b:=qo_ P 66 [false,false,true]) (by kernel_rfl) (body:=qg_ n x1 x2 x3 x4) (S:=qbj_ x1 x2 x3 x4) (X:=qbk_ x1 x2 x3 x4)
  (fun s s' h=>qfq_ n x1 x2 x3 x4 s (.inl s') h)
  (fun s r h=>qfq_ n x1 x2 x3 x4 s (.inr r) h)
  (fun r=>by intro hx; cases hx) h
def qcw_ (n:Nat)(a0:List (Bool))(a1 a2:Nat)(a3:List R8)(a4:Nat):Option (List (Bool)):=
 (qdq_ n a1 a2 a3 a4 (a0,(w64 (((a4:Nat):Int)-1)))).bind fun c1_=>
 some c1_
theorem qjy_ (n:Nat)(a0:List (Bool))(a1 a2:Nat)(a3:List R8)(a4:Nat)(r:List (Bool))(h:qcw_ n a0 a1 a2 a3 a4=some r):Gv P (.func 66) (qgt_ a0 a1 a2 a3 a4) (qgu_ a0 a1 a2 a3 a4) (qd4_ a0 a1 a2 a3 a4 r) (qd5_ a0 a1 a2 a3 a4 r):=by
 unfold qcw_ at h
 obtain⟨c1_,hc1,h⟩:=oB h
 obtain rfl:=oI h
 exact runF2 hm ⟨[],[(0,0,false),(1,1,false),(2,2,false),(3,3,true),(4,4,false),(5,5,true)],6,0,[],false,[],[],[]⟩ (ww (qi3_ n (rnd:=none) a1 a2 a3 a4 (a0,(w64 (((a4:Nat):Int)-1))) c1_ hc1) <|
  ww (qa_ rwf_b a0 4) <|
  ww (qa_ rwf_iiiiiiLu a3 35) <|
  ll 6 ⟨⟨[0,1,3],[(0,0,false),(1,1,false),(2,2,false),(3,3,true),(4,4,false),(5,5,true)],6,0,[],false,[],[],[]⟩,(qbk_ a1 a2 a3 a4 c1_).1,(qbk_ a1 a2 a3 a4 c1_).2⟩ <|
  ww (qa_ rwf_b c1_ 4) <|
  ww (qa_ rwf_iiiiiiLu a3 35) <|
  ee) (by kernel_rfl)

def qri_ (a0:List R8)(a1:Nat):List Value:=[(sN 0 0 a1 (Nat.add big 8))]
def qrj_ (a0:List R8)(a1:Nat):AH:=⟨sB [(0,(some (.cells (layT (rows rw_iiiiiiLu a0)) 35)))],1,1⟩
def qny_ (a0:List R8)(a1:Nat)(r:List (Bool)):Value:=match r with
 | o0=>(sN 2 0 ((((a1:Nat):Int)).toNat) ((((a1:Nat):Int)).toNat))
def qnz_ (a0:List R8)(a1:Nat)(r:List (Bool)):AH:=match r with
 | o0=>⟨sB [(0,(some (.cells (layT (rows rw_iiiiiiLu a0)) 35))),(1,(some (.marks false))),(2,(some (.cells (layT (rows rw_b o0)) 4)))],3,0⟩
abbrev G_treeStaleq1 (a0:List R8)(a1:Nat)(r:List (Bool)):Prop:=Gv P (.func 19) (qri_ a0 a1) (qrj_ a0 a1) (qny_ a0 a1 r) (qnz_ a0 a1 r)
abbrev C_treeStaleq1 (a0:List R8)(a1:Nat)(r:List (Bool))(ins outs:BL):CallA:=⟨1,ins,qny_ a0 a1 r,qnz_ a0 a1 r,outs⟩
def qi4_ (n:Nat)(a0:List R8)(a1:Nat):Option (List (Bool)):=
 (qff_ n a0 a1).bind fun c1_=>
 if c1_=0 then
  if 0≤((a1:Nat):Int) then
   if (((a1:Nat):Int)).toNat*1≤140737488355328 then
    (qc4_ n a0 a1).bind fun _=>
    (qcw_ n (List.replicate (((a1:Nat):Int)).toNat (false)) ((((a1:Nat):Int)).toNat) ((((a1:Nat):Int)).toNat) a0 a1).bind fun c6_=>
    some c6_
   else none
  else none
 else
  none
theorem qtq_ (n:Nat)(a0:List R8)(a1:Nat)(r:List (Bool))(h:qi4_ n a0 a1=some r):Gv P (.func 19) (qri_ a0 a1) (qrj_ a0 a1) (qny_ a0 a1 r) (qnz_ a0 a1 r):=by
 unfold qi4_ at h
 obtain⟨c1_,hc1,h⟩:=oB h
 have k0:=fun {A L l} (k:PL A L l)=>yy 5 (.call (qnu_ a0 a1 c1_ [(0,0,true)] [])) <|
  ww (qki_ n a0 a1 c1_ hc1) <|
  ww (qa_ rwf_iiiiiiLu a0 35) <|
  k
 by_cases hc2:c1_=0
 ·rw[if_pos hc2] at h
  obtain⟨hc3,h⟩:=gd h
  obtain⟨hc4,h⟩:=gd h
  obtain⟨_,hc5,h⟩:=oB h
  obtain⟨c6_,hc6,h⟩:=oB h
  obtain rfl:=oI h
  exact runF2 hm ⟨[2],[(0,0,true),(1,4,false),(2,1,true)],3,0,[],false,[],[],[]⟩ (k0 <|
   zz 6 (xnF hc2) <|
   yy 11 (.mk (((a1:Nat):Int)).toNat (rows rw_b (List.replicate (((a1:Nat):Int)).toNat (false)))) <|
   ww (p:=natOf (i6 ((a1:Nat):Int))=some (((a1:Nat):Int)).toNat) (qe4_ hc3) <|
   ww (p:=natOf (i6 ((a1:Nat):Int))=some (((a1:Nat):Int)).toNat) (qe4_ hc3) <|
   ww (p:=fits (((a1:Nat):Int)).toNat 1=true) (qk3_ hc4 (by omega)) <|
   ww (p:=isZ8 [(bO false)]=false) (rfl) <|
   ww (p:=reps [(bO false)] (((a1:Nat):Int)).toNat=(rows rw_b (List.replicate (((a1:Nat):Int)).toNat (false)))) (qv3_ rw_b (false) _ rfl _) <|
   yy 17 (.call (ql1_ a0 a1 () [(0,0,true)] [(0,0,true),(3,1,false)])) <|
   ww (qkk_ n a0 a1 () hc5) <|
   ww (qa_ rwf_iiiiiiLu a0 35) <|
   ww (qa_ rwf_iiiiiiLu a0 35) <|
   yy 19 (.rng (qlh_ (List.replicate (((a1:Nat):Int)).toNat (false)) ((((a1:Nat):Int)).toNat) ((((a1:Nat):Int)).toNat) a0 a1 c6_ [(0,5,false),(1,4,false),(2,2,false),(3,1,true),(4,3,false),(5,0,true)] [(5,0,false),(4,1,false),(2,2,false),(1,3,true),(3,4,false),(0,5,true)]) [3,13]) <|
   ww (qjy_ n (List.replicate (((a1:Nat):Int)).toNat (false)) ((((a1:Nat):Int)).toNat) ((((a1:Nat):Int)).toNat) a0 a1 c6_ hc6) <|
   ww (qa_ rwf_b (List.replicate (((a1:Nat):Int)).toNat (false)) 4) <|
   ww (qa_ rwf_iiiiiiLu a0 35) <|
   ww (qa_ rwf_b c6_ 4) <|
   ww (qa_ rwf_iiiiiiLu a0 35) <|
   ww (qa_ rwf_iiiiiiLu a0 35) <|
   ww (qa_ rwf_b c6_ 4) <|
   ee) (by kernel_rfl)
 ·rw[if_neg hc2] at h
  cases h

def qi5_ (a0:NL):List Value:=[(nlV a0)]
def qi6_ (a0:NL):AH:=⟨sB [],0,0⟩
def qfr_ (a0:NL)(r:Unit):Value:=match r with
 | _=>(Value.func (.func 41) #[] #[(pN 0 0)])
def qfs_ (a0:NL)(r:Unit):AH:=match r with
 | _=>⟨sB [(0,(some (.cells (layT [(nlV a0)]) 29)))],1,0⟩
abbrev G_slicesValuesintintq1 (a0:NL)(r:Unit):Prop:=Gv P (.func 22) (qi5_ a0) (qi6_ a0) (qfr_ a0 r) (qfs_ a0 r)
abbrev qn0_ (a0:NL)(r:Unit)(ins outs:BL):CallA:=⟨0,ins,qfr_ a0 r,qfs_ a0 r,outs⟩
def qd1_ (n:Nat)(a0:NL):Option (Unit):=
 some ()
theorem ql3_ (n:Nat)(a0:NL)(r:Unit)(h:qd1_ n a0=some r):Gv P (.func 22) (qi5_ a0) (qi6_ a0) (qfr_ a0 r) (qfs_ a0 r):=by
 unfold qd1_ at h
 obtain rfl:=oI h
 exact runF2 hm ⟨[2],[(0,0,false)],1,0,[],false,[],[],[]⟩ (ee) (by kernel_rfl)

def qov_ (a0:Bool)(a1:Int)(a2:List (Bool))(a3 a4:Nat):List Value:=[(bO a0),(i6 a1),(pN 0 0)]
def qow_ (a0:Bool)(a1:Int)(a2:List (Bool))(a3 a4:Nat):AH:=⟨sB [(0,(some (.cells (layT [(sN 1 0 a3 a4)]) 53))),(1,(some (.cells (layT (rows rw_b a2)) 4)))],2,2⟩
def qli_ (a0:Bool)(a1:Int)(a2:List (Bool))(a3 a4:Nat)(r:Bool):Value:=match r with
 | o0=>(bO o0)
def qlj_ (a0:Bool)(a1:Int)(a2:List (Bool))(a3 a4:Nat)(r:Bool):AH:=match r with
 | o0=>⟨sB [],2,2⟩
abbrev G_marksMarks1q1 (a0:Bool)(a1:Int)(a2:List (Bool))(a3 a4:Nat)(r:Bool):Prop:=Gv P (.func 23) (qov_ a0 a1 a2 a3 a4) (qow_ a0 a1 a2 a3 a4) (qli_ a0 a1 a2 a3 a4 r) (qlj_ a0 a1 a2 a3 a4 r)
abbrev qt4_ (a0:Bool)(a1:Int)(a2:List (Bool))(a3 a4:Nat)(r:Bool)(ins outs:BL):CallA:=⟨2,ins,qli_ a0 a1 a2 a3 a4 r,qlj_ a0 a1 a2 a3 a4 r,outs⟩
def qip_ (n:Nat)(a0:Bool)(a1:Int)(a2:List (Bool))(a3 a4:Nat):Option (Bool):=
 if a0=true then
  if 0≤a1∧a1<((a3:Nat):Int) then
   if (a1).toNat<(a2).length then
    ((some ((a2).getD (a1).toNat (false)))).bind fun c4_=>
    some c4_
   else none
  else none
 else
  some false
theorem qqw_ (n:Nat)(a0:Bool)(a1:Int)(a2:List (Bool))(a3 a4:Nat)(r:Bool)(h:qip_ n a0 a1 a2 a3 a4=some r):Gv P (.func 23) (qov_ a0 a1 a2 a3 a4) (qow_ a0 a1 a2 a3 a4) (qli_ a0 a1 a2 a3 a4 r) (qlj_ a0 a1 a2 a3 a4 r):=by
 unfold qip_ at h
 by_cases hc1:a0=true
 ·rw[if_pos hc1] at h
  obtain⟨hc2,h⟩:=gd h
  obtain⟨hc3,h⟩:=gd h
  obtain⟨c4_,hc4,h⟩:=oB h
  obtain rfl:=oI h
  exact runF2 hm ⟨[5],[],2,2,[],false,[],[],[]⟩ (zz 4 (xbT hc1) <|
   zz 7 (xk22 1 a4 hc2) <|
   zz 8 (ok23 hc4 (hc3)) <|
   ee) (by kernel_rfl)
 ·rw[if_neg hc1] at h
  obtain rfl:=oI h
  exact runF2 hm ⟨[5],[],2,2,[],false,[],[],[]⟩ (zz 4 (xbF hc1) <|
   ee) (by kernel_rfl)

def qh1_ (a0:Bool)(a1:List (Bool))(a2 a3:Nat)(a4:NL)(a5:Int):List Value:=[(i6 a5)]
def qh2_ (a0:Bool)(a1:List (Bool))(a2 a3:Nat)(a4:NL)(a5:Int):AH:=⟨sB [(0,(some (.cells (layT [(sN 1 0 a2 a3)]) 53))),(1,(some (.cells (layT (rows rw_b a1)) 4))),(2,(some (.cells (layT [(nlV a4)]) 29))),(3,(some (.cells (layT [(bO a0)]) 4))),(4,(some (.cells (layT [(Value.func (.func 23) #[] #[(pN 0 0)])]) 59))),(5,(some (.marks true))),(6,(some (rblk P 21 [false,true,false,true] .ready none [(4,(pN 3 0)),(5,(pN 4 0)),(8,(Value.func (.func 41) #[] #[(pN 2 0)]))] 5)))],7,7⟩
def qer_ (a0:Bool)(a1:List (Bool))(a2 a3:Nat)(a4:NL)(a5:Int)(r:Bool):Value:=match r with
 | o0=>(bO true)
def qes_ (a0:Bool)(a1:List (Bool))(a2 a3:Nat)(a4:NL)(a5:Int)(r:Bool):AH:=match r with
 | o0=>⟨sB [(0,(some (.cells (layT [(sN 1 0 a2 a3)]) 53))),(1,(some (.cells (layT (rows rw_b a1)) 4))),(2,(some (.cells (layT [(nlV a4)]) 29))),(3,(some (.cells (layT [(bO o0)]) 4))),(4,(some (.cells (layT [(Value.func (.func 23) #[] #[(pN 0 0)])]) 59))),(5,(some (.marks true))),(6,(some (rblk P 21 [false,true,false,true] .ready none [(4,(pN 3 0)),(5,(pN 4 0)),(8,(Value.func (.func 41) #[] #[(pN 2 0)]))] 5)))],7,3⟩
abbrev qwg_ (a0:Bool)(a1:List (Bool))(a2 a3:Nat)(a4:NL)(a5:Int)(r:Bool):Prop:=Gv P (.yield 6) (qh1_ a0 a1 a2 a3 a4 a5) (qh2_ a0 a1 a2 a3 a4 a5) (qer_ a0 a1 a2 a3 a4 a5 r) (qes_ a0 a1 a2 a3 a4 a5 r)
abbrev qmo_ (a0:Bool)(a1:List (Bool))(a2 a3:Nat)(a4:NL)(a5:Int)(r:Bool)(ins outs:BL):CallA:=⟨7,ins,qer_ a0 a1 a2 a3 a4 a5 r,qes_ a0 a1 a2 a3 a4 a5 r,outs⟩
def qdf_ (n:Nat)(a0:Bool)(a1:List (Bool))(a2 a3:Nat)(a4:NL)(a5:Int):Option (Bool):=
 (qip_ n a0 a5 a1 a2 a3).bind fun c1_=>
 some c1_
theorem qkv_ (n:Nat)(a0:Bool)(a1:List (Bool))(a2 a3:Nat)(a4:NL)(a5:Int)(r:Bool)(h:qdf_ n a0 a1 a2 a3 a4 a5=some r):Gv P (.yield 6) (qh1_ a0 a1 a2 a3 a4 a5) (qh2_ a0 a1 a2 a3 a4 a5) (qer_ a0 a1 a2 a3 a4 a5 r) (qes_ a0 a1 a2 a3 a4 a5 r):=by
 unfold qdf_ at h
 obtain⟨c1_,hc1,h⟩:=oB h
 obtain rfl:=oI h
 exact runY2 hm ⟨[],[(0,0,false),(1,1,true),(2,2,false),(3,3,false),(4,4,false),(5,5,false),(6,6,false)],7,3,[],false,[],[],[]⟩ (ee) (yy 4 (.call (qt4_ a0 a5 a1 a2 a3 c1_ [(0,0,false),(1,1,true)] [])) <|
  ww (qqw_ n a0 a5 a1 a2 a3 c1_ hc1) <|
  ww (qa_ rwf_b a1 4) <|
  ww (qa_ rwf_b a1 4) <|
  ee) (by kernel_rfl)

def qib_ (a0:Bool)(a1:List (Bool))(a2 a3:Nat)(a4:NL):List Value:=[(Value.func (.yield 6) #[] #[]),(pN 2 0)]
def qic_ (a0:Bool)(a1:List (Bool))(a2 a3:Nat)(a4:NL):AH:=⟨sB [(0,(some (.cells (layT [(sN 1 0 a2 a3)]) 53))),(1,(some (.cells (layT (rows rw_b a1)) 4))),(2,(some (.cells (layT [(nlV a4)]) 29))),(3,(some (.cells (layT [(bO a0)]) 4))),(4,(some (.cells (layT [(Value.func (.func 23) #[] #[(pN 0 0)])]) 59))),(5,(some (.marks true))),(6,(some (rblk P 21 [false,true,false,true] .ready none [(4,(pN 3 0)),(5,(pN 4 0)),(8,(Value.func (.func 41) #[] #[(pN 2 0)]))] 5)))],7,7⟩
def qe8_ (a0:Bool)(a1:List (Bool))(a2 a3:Nat)(a4:NL)(r:Bool):Value:=match r with
 | o0=>(Value.tuple #[])
def qe9_ (a0:Bool)(a1:List (Bool))(a2 a3:Nat)(a4:NL)(r:Bool):AH:=match r with
 | o0=>⟨sB [(0,(some (.cells (layT [(sN 1 0 a2 a3)]) 53))),(1,(some (.cells (layT (rows rw_b a1)) 4))),(2,(some (.cells (layT [(nlV a4)]) 29))),(3,(some (.cells (layT [(bO o0)]) 4))),(4,(some (.cells (layT [(Value.func (.func 23) #[] #[(pN 0 0)])]) 59))),(5,(some (.marks true))),(6,(some (rblk P 21 [false,true,false,true] .ready none [(4,(pN 3 0)),(5,(pN 4 0)),(8,(Value.func (.func 41) #[] #[(pN 2 0)]))] 5)))],7,3⟩
abbrev G_slicesValuesintint1q1 (a0:Bool)(a1:List (Bool))(a2 a3:Nat)(a4:NL)(r:Bool):Prop:=Gv P (.func 41) (qib_ a0 a1 a2 a3 a4) (qic_ a0 a1 a2 a3 a4) (qe8_ a0 a1 a2 a3 a4 r) (qe9_ a0 a1 a2 a3 a4 r)
abbrev qm2_ (a0:Bool)(a1:List (Bool))(a2 a3:Nat)(a4:NL)(r:Bool)(ins outs:BL):CallA:=⟨7,ins,qe8_ a0 a1 a2 a3 a4 r,qe9_ a0 a1 a2 a3 a4 r,outs⟩
def qb9_ (x0:List (Bool))(x1 x2:Nat)(x3:NL)(x5:Int)(st:Bool×Int):XSt:=match st with
 | (x4,x6)=>(sT 16 [(0,(Value.func (.yield 6) #[] #[])),(5,(nlV x3)),(6,(i6 x5)),(7,(i6 x6))],[],⟨sB [(0,(some (.cells (layT [(sN 1 0 x1 x2)]) 53))),(1,(some (.cells (layT (rows rw_b x0)) 4))),(2,(some (.cells (layT [(nlV x3)]) 29))),(3,(some (.cells (layT [(bO x4)]) 4))),(4,(some (.cells (layT [(Value.func (.func 23) #[] #[(pN 0 0)])]) 59))),(5,(some (.marks true))),(6,(some (rblk P 21 [false,true,false,true] .ready none [(4,(pN 3 0)),(5,(pN 4 0)),(8,(Value.func (.func 41) #[] #[(pN 2 0)]))] 5)))],7,3⟩)
def qca_ (x0:List (Bool))(x1 x2:Nat)(x3:NL)(x5:Int)(r:Bool):Ex×XSt:=match r with
 | z0=>(.exit 0,(sT 16 [],[],⟨sB [(0,(some (.cells (layT [(sN 1 0 x1 x2)]) 53))),(1,(some (.cells (layT (rows rw_b x0)) 4))),(2,(some (.cells (layT [(nlV x3)]) 29))),(3,(some (.cells (layT [(bO z0)]) 4))),(4,(some (.cells (layT [(Value.func (.func 23) #[] #[(pN 0 0)])]) 59))),(5,(some (.marks true))),(6,(some (rblk P 21 [false,true,false,true] .ready none [(4,(pN 3 0)),(5,(pN 4 0)),(8,(Value.func (.func 41) #[] #[(pN 2 0)]))] 5)))],7,3⟩))
abbrev qu2_ (rnd:Option Nat)(x0:List (Bool))(x1 x2:Nat)(x3:NL)(x5:Int)(st:Bool×Int)(c:Ex×XSt):Prop:=CG P rnd (fnN P 41) 7 (qo_ P 41 [false,false,true]) (qb9_ x0 x1 x2 x3 x5 st) c
def qz_ (n:Nat)(x0:List (Bool))(x1 x2:Nat)(x3:NL)(x5:Int)(st:Bool×Int):Option ((Bool×Int) ⊕ (Bool)):=match st with
 | (x4,x6)=>
  if x6<x5 then
   if 0≤x6∧x6<(((x3).l.length:Nat):Int) then
    if (x6).toNat<((x3).l).length then
     ((some (((x3).l).getD (x6).toNat 0))).bind fun y4_=>
     (qdf_ n x4 x0 x1 x2 x3 y4_).bind fun y5_=>
     some (.inl (y5_,(w64 (x6+1))))
    else none
   else none
  else
   some (.inr x4)
def qei_ (n:Nat)(x0:List (Bool))(x1 x2:Nat)(x3:NL)(x5:Int)(st:Bool×Int):Option (Bool):=iterM (qz_ n x0 x1 x2 x3 x5) n st
theorem qhk_ (n:Nat){rnd:Option Nat}(x0:List (Bool))(x1 x2:Nat)(x3:NL)(x5:Int)(st:Bool×Int)(o:(Bool×Int) ⊕ (Bool))(h:qz_ n x0 x1 x2 x3 x5 st=some o):CG P rnd (fnN P 41) 7 (qo_ P 41 [false,false,true]) (qb9_ x0 x1 x2 x3 x5 st) (Sum.elim (fun s=>(.normal,qb9_ x0 x1 x2 x3 x5 s)) (fun r=>qca_ x0 x1 x2 x3 x5 r) o):=by
 obtain⟨x4,x6⟩:=st
 unfold qz_ at h
 dsimp only at h
 by_cases hy1:x6<x5
 ·rw[if_pos hy1] at h
  obtain⟨hy2,h⟩:=gd h
  obtain⟨hy3,h⟩:=gd h
  obtain⟨y4_,hy4,h⟩:=oB h
  obtain⟨y5_,hy5,h⟩:=oB h
  obtain rfl:=oI h
  exact runC2 hm ⟨[0,5,6,7],[(0,0,false),(1,1,true),(2,2,false),(3,3,false),(4,4,false),(5,5,false),(6,6,false)],7,3,[],false,[],[],[]⟩ (zz 1 (xdT hy1) <|
   zz 7 (xk9 (Nat.add (x3).num 64) (x3).off (x3).cap hy2) <|
   zz 8 (nk10 hy4 hy3) <|
   yy 13 (.call (qmo_ x4 x0 x1 x2 x3 y4_ y5_ [(0,0,false),(1,1,true),(2,2,false),(3,3,false),(4,4,false),(5,5,false),(6,6,false)] [(0,0,false),(1,1,true),(2,2,false),(3,3,false),(4,4,false),(5,5,false),(6,6,false)])) <|
   ww (qkv_ n x4 x0 x1 x2 x3 y4_ y5_ hy5) <|
   ww (qa_ rwf_b x0 4) <|
   ww (qa_ rwf_b x0 4) <|
   ww (qa_ rwf_b x0 4) <|
   ee) (by kernel_rfl)
 ·rw[if_neg hy1] at h
  obtain rfl:=oI h
  exact runC2 hm ⟨[],[(0,0,false),(1,1,true),(2,2,false),(3,3,false),(4,4,false),(5,5,false),(6,6,false)],7,3,[],false,[],[],[]⟩ (zz 1 (xdF hy1) <|
   ww (qa_ rwf_b x0 4) <|
   ee) (by kernel_rfl)
theorem qkp_ (n:Nat){rnd:Option Nat}(x0:List (Bool))(x1 x2:Nat)(x3:NL)(x5:Int)(st:Bool×Int)(r:Bool)(h:qei_ n x0 x1 x2 x3 x5 st=some r):CG P rnd (fnN P 41) 7 (qo_ P 41 [false,true]) (qb9_ x0 x1 x2 x3 x5 st) (qca_ x0 x1 x2 x3 x5 r):=
 CG.iter (b:=qo_ P 41 [false,false,true]) (by kernel_rfl) (body:=qz_ n x0 x1 x2 x3 x5) (S:=qb9_ x0 x1 x2 x3 x5) (X:=qca_ x0 x1 x2 x3 x5)
  (fun s s' h=>qhk_ n x0 x1 x2 x3 x5 s (.inl s') h)
  (fun s r h=>qhk_ n x0 x1 x2 x3 x5 s (.inr r) h)
  (fun r=>by intro hx; cases hx) h
def qdu_ (n:Nat)(a0:Bool)(a1:List (Bool))(a2 a3:Nat)(a4:NL):Option (Bool):=
 (qei_ n a1 a2 a3 a4 (((a4).l.length:Nat):Int) (a0,0)).bind fun c1_=>
 some c1_
theorem qlk_ (n:Nat)(a0:Bool)(a1:List (Bool))(a2 a3:Nat)(a4:NL)(r:Bool)(h:qdu_ n a0 a1 a2 a3 a4=some r):Gv P (.func 41) (qib_ a0 a1 a2 a3 a4) (qic_ a0 a1 a2 a3 a4) (qe8_ a0 a1 a2 a3 a4 r) (qe9_ a0 a1 a2 a3 a4 r):=by
 unfold qdu_ at h
 obtain⟨c1_,hc1,h⟩:=oB h
 obtain rfl:=oI h
 exact runF2 hm ⟨[],[(0,0,false),(1,1,true),(2,2,false),(3,3,false),(4,4,false),(5,5,false),(6,6,false)],7,3,[],false,[],[],[]⟩ (ww (qkp_ n (rnd:=none) a1 a2 a3 a4 (((a4).l.length:Nat):Int) (a0,0) c1_ hc1) <|
  ww (qa_ rwf_b a1 4) <|
  ll 5 ⟨⟨[0,5,6,7],[(0,0,false),(1,1,true),(2,2,false),(3,3,false),(4,4,false),(5,5,false),(6,6,false)],7,3,[],false,[],[],[]⟩,(qca_ a1 a2 a3 a4 (((a4).l.length:Nat):Int) c1_).1,(qca_ a1 a2 a3 a4 (((a4).l.length:Nat):Int) c1_).2⟩ <|
  ww (qa_ rwf_b a1 4) <|
  ee) (by kernel_rfl)

def qk6_ (a0:NL)(a1:Bool)(a2:List (Bool))(a3 a4:Nat):List Value:=[(Value.func (.func 41) #[] #[(pN 2 0)]),(bO a1),(Value.func (.func 23) #[] #[(pN 0 0)])]
def qk7_ (a0:NL)(a1:Bool)(a2:List (Bool))(a3 a4:Nat):AH:=⟨sB [(0,(some (.cells (layT [(sN 1 0 a3 a4)]) 53))),(1,(some (.cells (layT (rows rw_b a2)) 4))),(2,(some (.cells (layT [(nlV a0)]) 29)))],3,3⟩
def qh3_ (a0:NL)(a1:Bool)(a2:List (Bool))(a3 a4:Nat)(r:Bool):Value:=match r with
 | o0=>(bO o0)
def qh4_ (a0:NL)(a1:Bool)(a2:List (Bool))(a3 a4:Nat)(r:Bool):AH:=match r with
 | o0=>⟨sB [(3,(some (.marks false)))],4,3⟩
abbrev G_foldOverintboolq1 (a0:NL)(a1:Bool)(a2:List (Bool))(a3 a4:Nat)(r:Bool):Prop:=Gv P (.func 21) (qk6_ a0 a1 a2 a3 a4) (qk7_ a0 a1 a2 a3 a4) (qh3_ a0 a1 a2 a3 a4 r) (qh4_ a0 a1 a2 a3 a4 r)
abbrev qp2_ (a0:NL)(a1:Bool)(a2:List (Bool))(a3 a4:Nat)(r:Bool)(ins outs:BL):CallA:=⟨3,ins,qh3_ a0 a1 a2 a3 a4 r,qh4_ a0 a1 a2 a3 a4 r,outs⟩
def qc6_ (n:Nat)(a0:NL)(a1:Bool)(a2:List (Bool))(a3 a4:Nat):Option (Bool):=
 (qdu_ n a1 a2 a3 a4 a0).bind fun c1_=>
 some c1_
theorem qn1_ (n:Nat)(a0:NL)(a1:Bool)(a2:List (Bool))(a3 a4:Nat)(r:Bool)(h:qc6_ n a0 a1 a2 a3 a4=some r):Gv P (.func 21) (qk6_ a0 a1 a2 a3 a4) (qk7_ a0 a1 a2 a3 a4) (qh3_ a0 a1 a2 a3 a4 r) (qh4_ a0 a1 a2 a3 a4 r):=by
 unfold qc6_ at h
 obtain⟨c1_,hc1,h⟩:=oB h
 obtain rfl:=oI h
 exact runF2 hm ⟨[6],[(3,5,false)],4,3,[],false,[],[],[]⟩ (yy 8 (.rng (qm2_ a1 a2 a3 a4 a0 c1_ [(0,0,false),(1,1,true),(2,2,false),(3,3,false),(4,4,false),(5,5,false),(6,6,false)] [(0,0,false),(1,1,true),(2,2,false),(3,3,false),(4,4,false),(5,5,false),(6,6,false)]) [4,5,8]) <|
  ww (qlk_ n a1 a2 a3 a4 a0 c1_ hc1) <|
  ww (qa_ rwf_b a2 4) <|
  ww (qa_ rwf_b a2 4) <|
  ee) (by kernel_rfl)

def qox_ (a0 a1:Int):List Value:=[(i6 a0),(i6 a1)]
def qoy_ (a0 a1:Int):AH:=⟨sB [],0,0⟩
def qll_ (a0 a1:Int)(r:Bool):Value:=match r with
 | o0=>(bO o0)
def qlm_ (a0 a1:Int)(r:Bool):AH:=match r with
 | o0=>⟨sB [],0,0⟩
abbrev G_marksbeforeq1 (a0 a1:Int)(r:Bool):Prop:=Gv P (.func 24) (qox_ a0 a1) (qoy_ a0 a1) (qll_ a0 a1 r) (qlm_ a0 a1 r)
abbrev qln_ (a0 a1:Int)(r:Bool)(ins outs:BL):CallA:=⟨0,ins,qll_ a0 a1 r,qlm_ a0 a1 r,outs⟩
def qd6_ (n:Nat)(a0 a1:Int):Option (Bool):=
 if a1=(-1:Int) then
  some true
 else
  if a0≤a1 then
   some true
  else
   some false
theorem qih_ (n:Nat)(a0 a1:Int)(r:Bool)(h:qd6_ n a0 a1=some r):Gv P (.func 24) (qox_ a0 a1) (qoy_ a0 a1) (qll_ a0 a1 r) (qlm_ a0 a1 r):=by
 unfold qd6_ at h
 by_cases hc1:a1=(-1:Int)
 ·rw[if_pos hc1] at h
  obtain rfl:=oI h
  exact runF2 hm ⟨[4],[],0,0,[],false,[],[],[]⟩ (zz 4 (xeT hc1) <|
   ee) (by kernel_rfl)
 ·rw[if_neg hc1] at h
  have k0:=fun {A L l} (k:PL A L l)=>zz 4 (xeF hc1) <|
   k
  by_cases hc2:a0≤a1
  ·rw[if_pos hc2] at h
   obtain rfl:=oI h
   exact runF2 hm ⟨[4],[],0,0,[],false,[],[],[]⟩ (k0 <|
    zz 8 (xdT hc2) <|
    ee) (by kernel_rfl)
  ·rw[if_neg hc2] at h
   obtain rfl:=oI h
   exact runF2 hm ⟨[4],[],0,0,[],false,[],[],[]⟩ (k0 <|
    zz 8 (xdF hc2) <|
    ee) (by kernel_rfl)

def qp3_ (a0:List R8)(a1:Nat)(a2 a3:Int):List Value:=[(sN 0 0 a1 (Nat.add big 8)),(i6 a2),(i6 a3)]
def qp4_ (a0:List R8)(a1:Nat)(a2 a3:Int):AH:=⟨sB [(0,(some (.cells (layT (rows rw_iiiiiiLu a0)) 35)))],1,1⟩
def qmp_ (a0:List R8)(a1:Nat)(a2 a3:Int)(r:List Int):Value:=match r with
 | o0=>(sN 1 0 ((((((((a1:Nat):Int)).toNat):Nat):Int)).toNat) ((((((((a1:Nat):Int)).toNat):Nat):Int)).toNat))
def qmq_ (a0:List R8)(a1:Nat)(a2 a3:Int)(r:List Int):AH:=match r with
 | o0=>⟨sB [(0,(some (.cells (layT (rows rw_iiiiiiLu a0)) 35))),(1,(some (.cells (layT (iv o0)) 3)))],2,0⟩
abbrev G_marksMarksq1 (a0:List R8)(a1:Nat)(a2 a3:Int)(r:List Int):Prop:=Gv P (.func 8) (qp3_ a0 a1 a2 a3) (qp4_ a0 a1 a2 a3) (qmp_ a0 a1 a2 a3 r) (qmq_ a0 a1 a2 a3 r)
abbrev qp5_ (a0:List R8)(a1:Nat)(a2 a3:Int)(r:List Int)(ins outs:BL):CallA:=⟨1,ins,qmp_ a0 a1 a2 a3 r,qmq_ a0 a1 a2 a3 r,outs⟩
def qft_ (x0:List R8)(x1:Nat)(x2:Int)(x3:List Int)(x4:Nat)(x5:List (Bool))(x7:Nat)(st:List (Bool)×List Int×Int):XSt:=match st with
 | (x6,x8,x9)=>(sT 90 [(0,(sN 0 0 x1 (Nat.add big 8))),(2,(i6 x2)),(7,(sN 1 0 x4 x4)),(8,(sN 2 0 x4 x4)),(9,(pN 3 0)),(10,(sN 5 0 x7 x7)),(11,(i6 x9))],[],⟨sB [(0,(some (.cells (layT (rows rw_iiiiiiLu x0)) 35))),(1,(some (.cells (layT (iv x3)) 3))),(2,(some (.cells (layT (rows rw_b x5)) 4))),(3,(some (.cells (layT [(sN 4 0 x7 x7)]) 53))),(4,(some (.cells (layT (rows rw_b x6)) 4))),(5,(some (.cells (layT (iv x8)) 3)))],6,0⟩)
def qfu_ (x0:List R8)(x1:Nat)(x2:Int)(x3:List Int)(x4:Nat)(x5:List (Bool))(x7:Nat)(r:List Int):Ex×XSt:=match r with
 | z0=>(.exit 0,(sT 90 [(10,(sN 1 0 x7 x7))],[],⟨sB [(0,(some (.cells (layT (rows rw_iiiiiiLu x0)) 35))),(1,(some (.cells (layT (iv z0)) 3)))],2,0⟩))
abbrev Q_marksMarksq1_1 (rnd:Option Nat)(x0:List R8)(x1:Nat)(x2:Int)(x3:List Int)(x4:Nat)(x5:List (Bool))(x7:Nat)(st:List (Bool)×List Int×Int)(c:Ex×XSt):Prop:=CG P rnd (fnN P 8) 1 (qo_ P 8 [false,false,true,false,true,true,true,true,true]) (qft_ x0 x1 x2 x3 x4 x5 x7 st) c
def qc2_ (n:Nat)(x0:List R8)(x1:Nat)(x2:Int)(x3:List Int)(x4:Nat)(x5:List (Bool))(x7:Nat)(st:List (Bool)×List Int×Int):Option ((List (Bool)×List Int×Int) ⊕ (List Int)):=match st with
 | (x6,x8,x9)=>
  if x9 ≥ 0 then
   if 0≤x9∧x9<((x1:Nat):Int) then
    if (x9).toNat<(x0).length then
     ((some ((x0).getD (x9).toNat (0,0,0,0,0,0,nl0,0)))).bind fun y4_=>
     if 0≤x9∧x9<((x4:Nat):Int) then
      if (x9).toNat<(x3).length then
       ((some ((x3).getD (x9).toNat 0))).bind fun y7_=>
       (qd0_ n (y4_.1) (y4_.2.1) (y4_.2.2.1) (y4_.2.2.2.1) (y4_.2.2.2.2.1) (y4_.2.2.2.2.2.1) (y4_.2.2.2.2.2.2.1) (y4_.2.2.2.2.2.2.2)).bind fun y8_=>
       if y8_=true then
        (qd1_ n (y4_.2.2.2.2.2.2.1)).bind fun _=>
        (qc6_ n (y4_.2.2.2.2.2.2.1) true x6 x7 x7).bind fun y11_=>
        if 0≤x9∧x9<((x7:Nat):Int) then
         if (x9).toNat<(x6).length then
          if (x9).toNat<(x5).length then
           ((some ((x5).getD (x9).toNat (false)))).bind fun y15_=>
           if y15_=true then
            if (x9).toNat<(x8).length then
             some (.inl (((x6).set (x9).toNat y11_),((x8).set (x9).toNat (1:Int)),(w64 (x9-1))))
            else none
           else
            if y11_=true then
             (qd6_ n (y4_.2.2.2.2.2.1) x2).bind fun y18_=>
             if y18_=true then
              if (x9).toNat<(x8).length then
               some (.inl (((x6).set (x9).toNat y11_),((x8).set (x9).toNat (3:Int)),(w64 (x9-1))))
              else none
             else
              if (x9).toNat<(x8).length then
               some (.inl (((x6).set (x9).toNat y11_),((x8).set (x9).toNat (2:Int)),(w64 (x9-1))))
              else none
            else
             if (x9).toNat<(x8).length then
              some (.inl (((x6).set (x9).toNat y11_),((x8).set (x9).toNat (2:Int)),(w64 (x9-1))))
             else none
          else none
         else none
        else none
       else
        if (x9).toNat<(x5).length then
         ((some ((x5).getD (x9).toNat (false)))).bind fun y11_=>
         if y11_=true then
          if 0≤x9∧x9<((x7:Nat):Int) then
           if (x9).toNat<(x6).length then
            if (x9).toNat<(x8).length then
             some (.inl (((x6).set (x9).toNat false),((x8).set (x9).toNat (1:Int)),(w64 (x9-1))))
            else none
           else none
          else none
         else
          (qd6_ n y7_ x2).bind fun y13_=>
          if 0≤x9∧x9<((x7:Nat):Int) then
           if (x9).toNat<(x6).length then
            if y13_=true then
             (qd6_ n y7_ x2).bind fun y17_=>
             if y17_=true then
              if (x9).toNat<(x8).length then
               some (.inl (((x6).set (x9).toNat y13_),((x8).set (x9).toNat (3:Int)),(w64 (x9-1))))
              else none
             else
              if (x9).toNat<(x8).length then
               some (.inl (((x6).set (x9).toNat y13_),((x8).set (x9).toNat (2:Int)),(w64 (x9-1))))
              else none
            else
             if (x9).toNat<(x8).length then
              some (.inl (((x6).set (x9).toNat y13_),((x8).set (x9).toNat (2:Int)),(w64 (x9-1))))
             else none
           else none
          else none
        else none
      else none
     else none
    else none
   else none
  else
   some (.inr x8)
def qkq_ (n:Nat)(x0:List R8)(x1:Nat)(x2:Int)(x3:List Int)(x4:Nat)(x5:List (Bool))(x7:Nat)(st:List (Bool)×List Int×Int):Option (List Int):=iterM (qc2_ n x0 x1 x2 x3 x4 x5 x7) n st
theorem qn2_ (n:Nat){rnd:Option Nat}(x0:List R8)(x1:Nat)(x2:Int)(x3:List Int)(x4:Nat)(x5:List (Bool))(x7:Nat)(st:List (Bool)×List Int×Int)(o:(List (Bool)×List Int×Int) ⊕ (List Int))(h:qc2_ n x0 x1 x2 x3 x4 x5 x7 st=some o):CG P rnd (fnN P 8) 1 (qo_ P 8 [false,false,true,false,true,true,true,true,true]) (qft_ x0 x1 x2 x3 x4 x5 x7 st) (Sum.elim (fun s=>(.normal,qft_ x0 x1 x2 x3 x4 x5 x7 s)) (fun r=>qfu_ x0 x1 x2 x3 x4 x5 x7 r) o):=by
 obtain⟨x6,x8,x9⟩:=st
 unfold qc2_ at h
 dsimp only at h
 by_cases hy1:x9 ≥ 0
 ·rw[if_pos hy1] at h
  obtain⟨hy2,h⟩:=gd h
  obtain⟨hy3,h⟩:=gd h
  obtain⟨y4_,hy4,h⟩:=oB h
  obtain⟨hy5,h⟩:=gd h
  obtain⟨hy6,h⟩:=gd h
  obtain⟨y7_,hy7,h⟩:=oB h
  obtain⟨y8_,hy8,h⟩:=oB h
  have k0:=fun {A L l} (k:PL A L l)=>zz 3 (xdT hy1) <|
   zz 10 (xk13 0 U8 hy2) <|
   yy 11 (.ld (Value.agg #[(i6 (y4_.1)),(i6 (y4_.2.1)),(i6 (y4_.2.2.1)),(i6 (y4_.2.2.2.1)),(i6 (y4_.2.2.2.2.1)),(i6 (y4_.2.2.2.2.2.1)),(nlV (y4_.2.2.2.2.2.2.1)),(Value.int .u64 (y4_.2.2.2.2.2.2.2))])) <|
   ww (p:=rdT (layT (rows rw_iiiiiiLu x0)) 8 ((x9).toNat*8)=some [(i6 (y4_.1)),(i6 (y4_.2.1)),(i6 (y4_.2.2.1)),(i6 (y4_.2.2.2.1)),(i6 (y4_.2.2.2.2.1)),(i6 (y4_.2.2.2.2.2.1)),(nlV (y4_.2.2.2.2.2.2.1)),(Value.int .u64 (y4_.2.2.2.2.2.2.2))]) (qjw_ rwf_iiiiiiLu (0,0,0,0,0,0,nl0,0) (hr:=hy4) (i:=(x9).toNat) (j:=0) ((x9).toNat*8) rfl (hy3) (by decide) rfl) <|
   zz 17 (xk19 1 x4 hy5) <|
   zz 18 (xivN hy7 hy6) <|
   yy 23 (.call (qmf_ (y4_.1) (y4_.2.1) (y4_.2.2.1) (y4_.2.2.2.1) (y4_.2.2.2.2.1) (y4_.2.2.2.2.2.1) (y4_.2.2.2.2.2.2.1) (y4_.2.2.2.2.2.2.2) y8_ [] [])) <|
   ww (qjb_ n (y4_.1) (y4_.2.1) (y4_.2.2.1) (y4_.2.2.2.1) (y4_.2.2.2.2.1) (y4_.2.2.2.2.2.1) (y4_.2.2.2.2.2.2.1) (y4_.2.2.2.2.2.2.2) y8_ hy8) <|
   k
  by_cases hy9:y8_=true
  ·rw[if_pos hy9] at h
   obtain⟨_,hy10,h⟩:=oB h
   obtain⟨y11_,hy11,h⟩:=oB h
   obtain⟨hy12,h⟩:=gd h
   obtain⟨hy13,h⟩:=gd h
   obtain⟨hy14,h⟩:=gd h
   obtain⟨y15_,hy15,h⟩:=oB h
   have k8:=fun {A L l} (k:PL A L l)=>zz 24 (xbT hy9) <|
    yy 33 (.call (qn0_ (y4_.2.2.2.2.2.2.1) () [] [(7,0,false)])) <|
    ww (ql3_ n (y4_.2.2.2.2.2.2.1) () hy10) <|
    yy 35 (.call (qp2_ (y4_.2.2.2.2.2.2.1) true x6 x7 x7 y11_ [(0,3,false),(1,4,true),(2,7,false)] [])) <|
    ww (qn1_ n (y4_.2.2.2.2.2.2.1) true x6 x7 x7 y11_ hy11) <|
    ww (qa_ rwf_b x6 4) <|
    zz 36 (xk22 4 x7 hy12) <|
    z2 37 (ste (k:=1) (qti_ rwf_b (false) (i:=(x9).toNat) (j:=0) (l:=[(bO y11_)]) y11_ ((x9).toNat*1) rfl (hy13) (Nat.le_of_ble_eq_true rfl) rfl)) <|
    zz 42 (xk22 2 x4 hy5) <|
    zz 43 (ok23 hy15 (hy14)) <|
    k
   by_cases hy16:y15_=true
   ·rw[if_pos hy16] at h
    obtain⟨hy17,h⟩:=gd h
    obtain rfl:=oI h
    exact runC2 hm ⟨[0,2,7,8,9,10,11],[(0,0,true),(1,1,true),(2,2,true),(3,3,false),(4,4,true),(5,5,true)],6,0,[],false,[],[],[]⟩ (k0 <|
     k8 <|
     zz 45 (xbT hy16) <|
     zz 48 (xk19 5 x7 hy12) <|
     z2 49 (stI ((1:Int)) hy17) <|
     ww (qa_ rwf_iiiiiiLu x0 35) <|
     ww (qc_ x3 3) <|
     ww (qa_ rwf_b x5 4) <|
     ww (qa_ rwf_b ((x6).set (x9).toNat y11_) 4) <|
     ww (qc_ ((x8).set (x9).toNat (1:Int)) 3) <|
     ee) (by kernel_rfl)
   ·rw[if_neg hy16] at h
    have k18:=fun {A L l} (k:PL A L l)=>zz 45 (xbF hy16) <|
     zz 49 (xk22 4 x7 hy12) <|
     yy 50 (.ld (bO y11_)) <|
     ww (p:=(layT (rows rw_b ((x6).set (x9).toNat y11_))).get ((x9).toNat*1)=some (bO y11_)) (rows_ldS rwf_b (i:=(x9).toNat) (j:=0) y11_ ((x9).toNat*1) rfl (hy13) (by decide) rfl) <|
     k
    by_cases hy17:y11_=true
    ·rw[if_pos hy17] at h
     obtain⟨y18_,hy18,h⟩:=oB h
     have k22:=fun {A L l} (k:PL A L l)=>zz 51 (xbT hy17) <|
      yy 54 (.call (qln_ (y4_.2.2.2.2.2.1) x2 y18_ [] [])) <|
      ww (qih_ n (y4_.2.2.2.2.2.1) x2 y18_ hy18) <|
      k
     by_cases hy19:y18_=true
     ·rw[if_pos hy19] at h
      obtain⟨hy20,h⟩:=gd h
      obtain rfl:=oI h
      exact runC2 hm ⟨[0,2,7,8,9,10,11],[(0,0,true),(1,1,true),(2,2,true),(3,3,false),(4,4,true),(5,5,true)],6,0,[],false,[],[],[]⟩ (k0 <|
       k8 <|
       k18 <|
       k22 <|
       zz 57 (xbT hy19) <|
       zz 60 (xk19 5 x7 hy12) <|
       z2 61 (stI ((3:Int)) hy20) <|
       ww (qa_ rwf_iiiiiiLu x0 35) <|
       ww (qc_ x3 3) <|
       ww (qa_ rwf_b x5 4) <|
       ww (qa_ rwf_b ((x6).set (x9).toNat y11_) 4) <|
       ww (qc_ ((x8).set (x9).toNat (3:Int)) 3) <|
       ee) (by kernel_rfl)
     ·rw[if_neg hy19] at h
      obtain⟨hy20,h⟩:=gd h
      obtain rfl:=oI h
      exact runC2 hm ⟨[0,2,7,8,9,10,11],[(0,0,true),(1,1,true),(2,2,true),(3,3,false),(4,4,true),(5,5,true)],6,0,[],false,[],[],[]⟩ (k0 <|
       k8 <|
       k18 <|
       k22 <|
       zz 57 (xbF hy19) <|
       zz 60 (xk19 5 x7 hy12) <|
       z2 61 (stI ((2:Int)) hy20) <|
       ww (qa_ rwf_iiiiiiLu x0 35) <|
       ww (qc_ x3 3) <|
       ww (qa_ rwf_b x5 4) <|
       ww (qa_ rwf_b ((x6).set (x9).toNat y11_) 4) <|
       ww (qc_ ((x8).set (x9).toNat (2:Int)) 3) <|
       ee) (by kernel_rfl)
    ·rw[if_neg hy17] at h
     obtain⟨hy18,h⟩:=gd h
     obtain rfl:=oI h
     exact runC2 hm ⟨[0,2,7,8,9,10,11],[(0,0,true),(1,1,true),(2,2,true),(3,3,false),(4,4,true),(5,5,true)],6,0,[],false,[],[],[]⟩ (k0 <|
      k8 <|
      k18 <|
      zz 51 (xbF hy17) <|
      zz 60 (xk19 5 x7 hy12) <|
      z2 61 (stI ((2:Int)) hy18) <|
      ww (qa_ rwf_iiiiiiLu x0 35) <|
      ww (qc_ x3 3) <|
      ww (qa_ rwf_b x5 4) <|
      ww (qa_ rwf_b ((x6).set (x9).toNat y11_) 4) <|
      ww (qc_ ((x8).set (x9).toNat (2:Int)) 3) <|
      ee) (by kernel_rfl)
  ·rw[if_neg hy9] at h
   obtain⟨hy10,h⟩:=gd h
   obtain⟨y11_,hy11,h⟩:=oB h
   have k8:=fun {A L l} (k:PL A L l)=>zz 24 (xbF hy9) <|
    zz 29 (xk22 2 x4 hy5) <|
    zz 30 (ok23 hy11 (hy10)) <|
    k
   by_cases hy12:y11_=true
   ·rw[if_pos hy12] at h
    obtain⟨hy13,h⟩:=gd h
    obtain⟨hy14,h⟩:=gd h
    obtain⟨hy15,h⟩:=gd h
    obtain rfl:=oI h
    exact runC2 hm ⟨[0,2,7,8,9,10,11],[(0,0,true),(1,1,true),(2,2,true),(3,3,false),(4,4,true),(5,5,true)],6,0,[],false,[],[],[]⟩ (k0 <|
     k8 <|
     yy 31 (vf) <|
     ww (p:=(Value.bool (!y11_))=(Value.bool false)) (vBn hy12) <|
     zz 37 (xk22 4 x7 hy13) <|
     z2 38 (ste (k:=1) (qti_ rwf_b (false) (i:=(x9).toNat) (j:=0) (l:=[(bO false)]) false ((x9).toNat*1) rfl (hy14) (Nat.le_of_ble_eq_true rfl) rfl)) <|
     zz 43 (xk22 2 x4 hy5) <|
     zz 44 (ok23 hy11 (hy10)) <|
     zz 46 (xbT hy12) <|
     zz 49 (xk19 5 x7 hy13) <|
     z2 50 (stI ((1:Int)) hy15) <|
     ww (qa_ rwf_iiiiiiLu x0 35) <|
     ww (qc_ x3 3) <|
     ww (qa_ rwf_b x5 4) <|
     ww (qa_ rwf_b ((x6).set (x9).toNat false) 4) <|
     ww (qc_ ((x8).set (x9).toNat (1:Int)) 3) <|
     ee) (by kernel_rfl)
   ·rw[if_neg hy12] at h
    obtain⟨y13_,hy13,h⟩:=oB h
    obtain⟨hy14,h⟩:=gd h
    obtain⟨hy15,h⟩:=gd h
    have k11:=fun {A L l} (k:PL A L l)=>yy 31 (vt) <|
     ww (p:=(Value.bool (!y11_))=(Value.bool true)) (vBn (Bool.eq_false_iff.2 hy12)) <|
     yy 35 (.call (qln_ y7_ x2 y13_ [] [])) <|
     ww (qih_ n y7_ x2 y13_ hy13) <|
     zz 37 (xk22 4 x7 hy14) <|
     z2 38 (ste (k:=1) (qti_ rwf_b (false) (i:=(x9).toNat) (j:=0) (l:=[(bO y13_)]) y13_ ((x9).toNat*1) rfl (hy15) (Nat.le_of_ble_eq_true rfl) rfl)) <|
     zz 43 (xk22 2 x4 hy5) <|
     zz 44 (ok23 hy11 (hy10)) <|
     zz 46 (xbF hy12) <|
     zz 50 (xk22 4 x7 hy14) <|
     yy 51 (.ld (bO y13_)) <|
     ww (p:=(layT (rows rw_b ((x6).set (x9).toNat y13_))).get ((x9).toNat*1)=some (bO y13_)) (rows_ldS rwf_b (i:=(x9).toNat) (j:=0) y13_ ((x9).toNat*1) rfl (hy15) (by decide) rfl) <|
     k
    by_cases hy16:y13_=true
    ·rw[if_pos hy16] at h
     obtain⟨y17_,hy17,h⟩:=oB h
     have k23:=fun {A L l} (k:PL A L l)=>zz 52 (xbT hy16) <|
      yy 55 (.call (qln_ y7_ x2 y17_ [] [])) <|
      ww (qih_ n y7_ x2 y17_ hy17) <|
      k
     by_cases hy18:y17_=true
     ·rw[if_pos hy18] at h
      obtain⟨hy19,h⟩:=gd h
      obtain rfl:=oI h
      exact runC2 hm ⟨[0,2,7,8,9,10,11],[(0,0,true),(1,1,true),(2,2,true),(3,3,false),(4,4,true),(5,5,true)],6,0,[],false,[],[],[]⟩ (k0 <|
       k8 <|
       k11 <|
       k23 <|
       zz 58 (xbT hy18) <|
       zz 61 (xk19 5 x7 hy14) <|
       z2 62 (stI ((3:Int)) hy19) <|
       ww (qa_ rwf_iiiiiiLu x0 35) <|
       ww (qc_ x3 3) <|
       ww (qa_ rwf_b x5 4) <|
       ww (qa_ rwf_b ((x6).set (x9).toNat y13_) 4) <|
       ww (qc_ ((x8).set (x9).toNat (3:Int)) 3) <|
       ee) (by kernel_rfl)
     ·rw[if_neg hy18] at h
      obtain⟨hy19,h⟩:=gd h
      obtain rfl:=oI h
      exact runC2 hm ⟨[0,2,7,8,9,10,11],[(0,0,true),(1,1,true),(2,2,true),(3,3,false),(4,4,true),(5,5,true)],6,0,[],false,[],[],[]⟩ (k0 <|
       k8 <|
       k11 <|
       k23 <|
       zz 58 (xbF hy18) <|
       zz 61 (xk19 5 x7 hy14) <|
       z2 62 (stI ((2:Int)) hy19) <|
       ww (qa_ rwf_iiiiiiLu x0 35) <|
       ww (qc_ x3 3) <|
       ww (qa_ rwf_b x5 4) <|
       ww (qa_ rwf_b ((x6).set (x9).toNat y13_) 4) <|
       ww (qc_ ((x8).set (x9).toNat (2:Int)) 3) <|
       ee) (by kernel_rfl)
    ·rw[if_neg hy16] at h
     obtain⟨hy17,h⟩:=gd h
     obtain rfl:=oI h
     exact runC2 hm ⟨[0,2,7,8,9,10,11],[(0,0,true),(1,1,true),(2,2,true),(3,3,false),(4,4,true),(5,5,true)],6,0,[],false,[],[],[]⟩ (k0 <|
      k8 <|
      k11 <|
      zz 52 (xbF hy16) <|
      zz 61 (xk19 5 x7 hy14) <|
      z2 62 (stI ((2:Int)) hy17) <|
      ww (qa_ rwf_iiiiiiLu x0 35) <|
      ww (qc_ x3 3) <|
      ww (qa_ rwf_b x5 4) <|
      ww (qa_ rwf_b ((x6).set (x9).toNat y13_) 4) <|
      ww (qc_ ((x8).set (x9).toNat (2:Int)) 3) <|
      ee) (by kernel_rfl)
 ·rw[if_neg hy1] at h
  obtain rfl:=oI h
  exact runC2 hm ⟨[10],[(0,0,true),(1,5,true)],2,0,[],false,[],[],[]⟩ (zz 3 (xdF hy1) <|
   ww (qa_ rwf_iiiiiiLu x0 35) <|
   ww (qc_ x8 3) <|
   ee) (by kernel_rfl)
theorem qp6_ (n:Nat){rnd:Option Nat}(x0:List R8)(x1:Nat)(x2:Int)(x3:List Int)(x4:Nat)(x5:List (Bool))(x7:Nat)(st:List (Bool)×List Int×Int)(r:List Int)(h:qkq_ n x0 x1 x2 x3 x4 x5 x7 st=some r):CG P rnd (fnN P 8) 1 (qo_ P 8 [false,true,false,true,true,true,true,true]) (qft_ x0 x1 x2 x3 x4 x5 x7 st) (qfu_ x0 x1 x2 x3 x4 x5 x7 r):=
 CG.iter (b:=qo_ P 8 [false,false,true,false,true,true,true,true,true]) (by kernel_rfl) (body:=qc2_ n x0 x1 x2 x3 x4 x5 x7) (S:=qft_ x0 x1 x2 x3 x4 x5 x7) (X:=qfu_ x0 x1 x2 x3 x4 x5 x7)
  (fun s s' h=>qn2_ n x0 x1 x2 x3 x4 x5 x7 s (.inl s') h)
  (fun s r h=>qn2_ n x0 x1 x2 x3 x4 x5 x7 s (.inr r) h)
  (fun r=>by intro hx; cases hx) h
def qdg_ (n:Nat)(a0:List R8)(a1:Nat)(a2 a3:Int):Option (List Int):=
 (qhz_ n a0 a1 a2).bind fun c1_=>
 (qi4_ n a0 a1).bind fun c2_=>
 if 0≤((((((a1:Nat):Int)).toNat):Nat):Int) then
  if (((((((a1:Nat):Int)).toNat):Nat):Int)).toNat*1≤140737488355328 then
   if (((((((a1:Nat):Int)).toNat):Nat):Int)).toNat*8≤140737488355328 then
    ((some (w64 (((((((a1:Nat):Int)).toNat):Nat):Int)-1)))).bind fun c6_=>
    (qkq_ n a0 a1 a3 c1_ ((((a1:Nat):Int)).toNat) c2_ ((((((((a1:Nat):Int)).toNat):Nat):Int)).toNat) ((List.replicate (((((((a1:Nat):Int)).toNat):Nat):Int)).toNat (false)),(List.replicate (((((((a1:Nat):Int)).toNat):Nat):Int)).toNat (0:Int)),c6_)).bind fun c7_=>
    some c7_
   else none
  else none
 else none
theorem qmx_ (n:Nat)(a0:List R8)(a1:Nat)(a2 a3:Int)(r:List Int)(h:qdg_ n a0 a1 a2 a3=some r):Gv P (.func 8) (qp3_ a0 a1 a2 a3) (qp4_ a0 a1 a2 a3) (qmp_ a0 a1 a2 a3 r) (qmq_ a0 a1 a2 a3 r):=by
 unfold qdg_ at h
 obtain⟨c1_,hc1,h⟩:=oB h
 obtain⟨c2_,hc2,h⟩:=oB h
 obtain⟨hc3,h⟩:=gd h
 obtain⟨hc4,h⟩:=gd h
 obtain⟨hc5,h⟩:=gd h
 obtain⟨c6_,hc6,h⟩:=oB h
 obtain⟨c7_,hc7,h⟩:=oB h
 obtain rfl:=oI h
 exact runF2 hm ⟨[6],[(0,0,true),(1,1,true)],2,0,[],false,[],[],[]⟩ (yy 5 (.call (qwe_ a0 a1 a2 c1_ [(0,0,true)] [(0,0,true),(1,1,true)])) <|
  ww (qro_ n a0 a1 a2 c1_ hc1) <|
  ww (qa_ rwf_iiiiiiLu a0 35) <|
  ww (qa_ rwf_iiiiiiLu a0 35) <|
  ww (qc_ c1_ 3) <|
  yy 9 (.call (C_treeStaleq1 a0 a1 c2_ [(0,0,true)] [(0,0,true),(3,2,true)])) <|
  ww (qtq_ n a0 a1 c2_ hc2) <|
  ww (qa_ rwf_iiiiiiLu a0 35) <|
  ww (qa_ rwf_iiiiiiLu a0 35) <|
  ww (qa_ rwf_b c2_ 4) <|
  yy 14 (.mk (((((((a1:Nat):Int)).toNat):Nat):Int)).toNat (rows rw_b (List.replicate (((((((a1:Nat):Int)).toNat):Nat):Int)).toNat (false)))) <|
  ww (p:=natOf (i6 ((((((a1:Nat):Int)).toNat):Nat):Int))=some (((((((a1:Nat):Int)).toNat):Nat):Int)).toNat) (qe4_ hc3) <|
  ww (p:=natOf (i6 ((((((a1:Nat):Int)).toNat):Nat):Int))=some (((((((a1:Nat):Int)).toNat):Nat):Int)).toNat) (qe4_ hc3) <|
  ww (p:=fits (((((((a1:Nat):Int)).toNat):Nat):Int)).toNat 1=true) (qk3_ hc4 (by omega)) <|
  ww (p:=isZ8 [(bO false)]=false) (rfl) <|
  ww (p:=reps [(bO false)] (((((((a1:Nat):Int)).toNat):Nat):Int)).toNat=(rows rw_b (List.replicate (((((((a1:Nat):Int)).toNat):Nat):Int)).toNat (false)))) (qv3_ rw_b (false) _ rfl _) <|
  yy 20 (.mk (((((((a1:Nat):Int)).toNat):Nat):Int)).toNat (iv (List.replicate (((((((a1:Nat):Int)).toNat):Nat):Int)).toNat (0:Int)))) <|
  ww (p:=natOf (i6 ((((((a1:Nat):Int)).toNat):Nat):Int))=some (((((((a1:Nat):Int)).toNat):Nat):Int)).toNat) (qe4_ hc3) <|
  ww (p:=natOf (i6 ((((((a1:Nat):Int)).toNat):Nat):Int))=some (((((((a1:Nat):Int)).toNat):Nat):Int)).toNat) (qe4_ hc3) <|
  ww (p:=fits (((((((a1:Nat):Int)).toNat):Nat):Int)).toNat 8=true) (qk3_ hc5 (by omega)) <|
  ww (p:=isZ8 [(i6 (0:Int))]=false) (rfl) <|
  ww (p:=reps [(i6 (0:Int))] (((((((a1:Nat):Int)).toNat):Nat):Int)).toNat=(iv (List.replicate (((((((a1:Nat):Int)).toNat):Nat):Int)).toNat (0:Int)))) (reps_iv _) <|
  zz 26 (xnm hc6) <|
  ww (qp6_ n (rnd:=none) a0 a1 a3 c1_ ((((a1:Nat):Int)).toNat) c2_ ((((((((a1:Nat):Int)).toNat):Nat):Int)).toNat) ((List.replicate (((((((a1:Nat):Int)).toNat):Nat):Int)).toNat (false)),(List.replicate (((((((a1:Nat):Int)).toNat):Nat):Int)).toNat (0:Int)),c6_) c7_ hc7) <|
  ww (qa_ rwf_iiiiiiLu a0 35) <|
  ww (qc_ c1_ 3) <|
  ww (qa_ rwf_b c2_ 4) <|
  ww (qa_ rwf_b (List.replicate (((((((a1:Nat):Int)).toNat):Nat):Int)).toNat (false)) 4) <|
  ww (qc_ (List.replicate (((((((a1:Nat):Int)).toNat):Nat):Int)).toNat (0:Int)) 3) <|
  ll 29 ⟨⟨[0,2,7,8,9,10,11],[(0,0,true),(1,1,true),(2,3,true),(3,5,false),(4,4,true),(5,6,true)],6,0,[],false,[],[],[]⟩,(qfu_ a0 a1 a3 c1_ ((((a1:Nat):Int)).toNat) c2_ ((((((((a1:Nat):Int)).toNat):Nat):Int)).toNat) c7_).1,(qfu_ a0 a1 a3 c1_ ((((a1:Nat):Int)).toNat) c2_ ((((((((a1:Nat):Int)).toNat):Nat):Int)).toNat) c7_).2⟩ <|
  ww (qa_ rwf_iiiiiiLu a0 35) <|
  ww (qc_ c7_ 3) <|
  ee) (by kernel_rfl)

def qp7_ (a0:List Int)(a1 a2:Nat):List Value:=[(sN 0 0 a1 a2)]
def qp8_ (a0:List Int)(a1 a2:Nat):AH:=⟨sB [(0,(some (.cells (layT (iv a0)) 3)))],1,1⟩
def qmr_ (a0:List Int)(a1 a2:Nat)(r:Int×Int×Int×Int):Value:=match r with
 | (o0,o1,o2,o3)=>(Value.agg #[(i6 o0),(i6 o1),(i6 o2),(i6 o3)])
def qms_ (a0:List Int)(a1 a2:Nat)(r:Int×Int×Int×Int):AH:=match r with
 | (o0,o1,o2,o3)=>⟨sB [(1,(some (.cells (layT [(i6 o0),(i6 o1),(i6 o2),(i6 o3)]) 31)))],2,1⟩
abbrev G_marksCountq1 (a0:List Int)(a1 a2:Nat)(r:Int×Int×Int×Int):Prop:=Gv P (.func 9) (qp7_ a0 a1 a2) (qp8_ a0 a1 a2) (qmr_ a0 a1 a2 r) (qms_ a0 a1 a2 r)
abbrev qp9_ (a0:List Int)(a1 a2:Nat)(r:Int×Int×Int×Int)(ins outs:BL):CallA:=⟨1,ins,qmr_ a0 a1 a2 r,qms_ a0 a1 a2 r,outs⟩
def qfv_ (x0:List Int)(x2 x3:Nat)(x4:Int)(st:List Int×Int):XSt:=match st with
 | (x1,x5)=>(sT 25 [(2,(pN 1 0)),(3,(pN 2 0)),(6,(sN 0 0 x2 x3)),(7,(i6 x4)),(8,(i6 x5))],[],⟨sB [(0,(some (.cells (layT (iv x0)) 3))),(1,(some (.cells (layT [(i6 (0:Int)),(i6 (0:Int)),(i6 (0:Int)),(i6 (0:Int))]) 31))),(2,(some (.cells (layT (iv x1)) 31)))],3,1⟩)
def qfw_ (x0:List Int)(x2 x3:Nat)(x4:Int)(r:List Int):Ex×XSt:=match r with
 | z0=>(.exit 0,(sT 25 [(2,(pN 1 0)),(3,(pN 2 0))],[],⟨sB [(0,(some (.cells (layT (iv x0)) 3))),(1,(some (.cells (layT [(i6 (0:Int)),(i6 (0:Int)),(i6 (0:Int)),(i6 (0:Int))]) 31))),(2,(some (.cells (layT (iv z0)) 31)))],3,1⟩))
abbrev Q_marksCountq1_1 (rnd:Option Nat)(x0:List Int)(x2 x3:Nat)(x4:Int)(st:List Int×Int)(c:Ex×XSt):Prop:=CG P rnd (fnN P 9) 1 (qo_ P 9 [false,false,true,false,true,true]) (qfv_ x0 x2 x3 x4 st) c
def qdr_ (n:Nat)(x0:List Int)(x2 x3:Nat)(x4:Int)(st:List Int×Int):Option ((List Int×Int) ⊕ (List Int)):=match st with
 | (x1,x5)=>
  if x5<x4 then
   if 0≤x5∧x5<((x2:Nat):Int) then
    if (x5).toNat<(x0).length then
     ((some ((x0).getD (x5).toNat 0))).bind fun y4_=>
     if y4_<1 then
      if 0<(x1).length then
       some (.inl (((x1).set 0 (w64 (((x1).getD 0 0)+1))),(w64 (x5+1))))
      else none
     else
      if y4_ > 3 then
       if 0<(x1).length then
        some (.inl (((x1).set 0 (w64 (((x1).getD 0 0)+1))),(w64 (x5+1))))
       else none
      else
       if 0≤y4_∧y4_<((4:Nat):Int) then
        if (y4_).toNat<(x1).length then
         ((some ((x1).getD (y4_).toNat 0))).bind fun y9_=>
         some (.inl (((x1).set (y4_).toNat (w64 (y9_+1))),(w64 (x5+1))))
        else none
       else none
    else none
   else none
  else
   some (.inr x1)
def qkr_ (n:Nat)(x0:List Int)(x2 x3:Nat)(x4:Int)(st:List Int×Int):Option (List Int):=iterM (qdr_ n x0 x2 x3 x4) n st
theorem qn3_ (n:Nat){rnd:Option Nat}(x0:List Int)(x2 x3:Nat)(x4:Int)(st:List Int×Int)(o:(List Int×Int) ⊕ (List Int))(h:qdr_ n x0 x2 x3 x4 st=some o):CG P rnd (fnN P 9) 1 (qo_ P 9 [false,false,true,false,true,true]) (qfv_ x0 x2 x3 x4 st) (Sum.elim (fun s=>(.normal,qfv_ x0 x2 x3 x4 s)) (fun r=>qfw_ x0 x2 x3 x4 r) o):=by
 obtain⟨x1,x5⟩:=st
 unfold qdr_ at h
 dsimp only at h
 by_cases hy1:x5<x4
 ·rw[if_pos hy1] at h
  obtain⟨hy2,h⟩:=gd h
  obtain⟨hy3,h⟩:=gd h
  obtain⟨y4_,hy4,h⟩:=oB h
  have k0:=fun {A L l} (k:PL A L l)=>zz 1 (xdT hy1) <|
   zz 7 (xk19 0 x3 hy2) <|
   zz 8 (xivN hy4 hy3) <|
   k
  by_cases hy5:y4_<1
  ·rw[if_pos hy5] at h
   obtain⟨hy6,h⟩:=gd h
   obtain rfl:=oI h
   exact runC2 hm ⟨[2,3,6,7,8],[(0,0,true),(1,1,false),(2,2,true)],3,1,[],false,[],[],[]⟩ (k0 <|
    zz 13 (xdT hy5) <|
    yy 22 (.ld (i6 ((x1).getD 0 0))) <|
    ww (p:=(layT (iv x1)).get 0=some (i6 ((x1).getD 0 0))) (iv_ld _ _ hy6) <|
    z2 25 (stI ((w64 (((x1).getD 0 0)+1))) (hy6)) <|
    ww (qc_ x0 3) <|
    ww (qc_ ((x1).set 0 (w64 (((x1).getD 0 0)+1))) 31) <|
    ee) (by kernel_rfl)
  ·rw[if_neg hy5] at h
   have k3:=fun {A L l} (k:PL A L l)=>zz 13 (xdF hy5) <|
    k
   by_cases hy6:y4_ > 3
   ·rw[if_pos hy6] at h
    obtain⟨hy7,h⟩:=gd h
    obtain rfl:=oI h
    exact runC2 hm ⟨[2,3,6,7,8],[(0,0,true),(1,1,false),(2,2,true)],3,1,[],false,[],[],[]⟩ (k0 <|
     k3 <|
     zz 16 (xdT hy6) <|
     yy 22 (.ld (i6 ((x1).getD 0 0))) <|
     ww (p:=(layT (iv x1)).get 0=some (i6 ((x1).getD 0 0))) (iv_ld _ _ hy7) <|
     z2 25 (stI ((w64 (((x1).getD 0 0)+1))) (hy7)) <|
     ww (qc_ x0 3) <|
     ww (qc_ ((x1).set 0 (w64 (((x1).getD 0 0)+1))) 31) <|
     ee) (by kernel_rfl)
   ·rw[if_neg hy6] at h
    obtain⟨hy7,h⟩:=gd h
    obtain⟨hy8,h⟩:=gd h
    obtain⟨y9_,hy9,h⟩:=oB h
    obtain rfl:=oI h
    exact runC2 hm ⟨[2,3,6,7,8],[(0,0,true),(1,1,false),(2,2,true)],3,1,[],false,[],[],[]⟩ (k0 <|
     k3 <|
     zz 16 (xdF hy6) <|
     yy 20 (.pur (pN 2 (y4_).toNat)) <|
     ww (p:=qb7_ P 31 (pN 2 0) (i6 y4_) Ax.h0=some ((pN 2 (y4_).toNat),Ax.h0)) (ixArr1 (e:=3) (m:=4) (by kernel_rfl) (by kernel_rfl) hy7) <|
     zz 21 (xivN hy9 hy8) <|
     yy 23 (.pur (pN 2 (y4_).toNat)) <|
     ww (p:=qb7_ P 31 (pN 2 0) (i6 y4_) Ax.h0=some ((pN 2 (y4_).toNat),Ax.h0)) (ixArr1 (e:=3) (m:=4) (by kernel_rfl) (by kernel_rfl) hy7) <|
     z2 24 (stI ((w64 (y9_+1))) hy8) <|
     ww (qc_ x0 3) <|
     ww (qc_ ((x1).set (y4_).toNat (w64 (y9_+1))) 31) <|
     ee) (by kernel_rfl)
 ·rw[if_neg hy1] at h
  obtain rfl:=oI h
  exact runC2 hm ⟨[2,3],[(0,0,true),(1,1,false),(2,2,true)],3,1,[],false,[],[],[]⟩ (zz 1 (xdF hy1) <|
   ww (qc_ x0 3) <|
   ww (qc_ x1 31) <|
   ee) (by kernel_rfl)
theorem qqa_ (n:Nat){rnd:Option Nat}(x0:List Int)(x2 x3:Nat)(x4:Int)(st:List Int×Int)(r:List Int)(h:qkr_ n x0 x2 x3 x4 st=some r):CG P rnd (fnN P 9) 1 (qo_ P 9 [false,true,false,true,true]) (qfv_ x0 x2 x3 x4 st) (qfw_ x0 x2 x3 x4 r):=
 CG.iter (b:=qo_ P 9 [false,false,true,false,true,true]) (by kernel_rfl) (body:=qdr_ n x0 x2 x3 x4) (S:=qfv_ x0 x2 x3 x4) (X:=qfw_ x0 x2 x3 x4)
  (fun s s' h=>qn3_ n x0 x2 x3 x4 s (.inl s') h)
  (fun s r h=>qn3_ n x0 x2 x3 x4 s (.inr r) h)
  (fun r=>by intro hx; cases hx) h
def qf3_ (n:Nat)(a0:List Int)(a1 a2:Nat):Option (Int×Int×Int×Int):=
 (qkr_ n a0 a1 a2 ((a1:Nat):Int) ([(0:Int),(0:Int),(0:Int),(0:Int)],0)).bind fun c1_=>
 if (c1_).length=4 then
  some (((c1_).getD 0 0),((c1_).getD 1 0),((c1_).getD 2 0),((c1_).getD 3 0))
 else none
theorem qmy_ (n:Nat)(a0:List Int)(a1 a2:Nat)(r:Int×Int×Int×Int)(h:qf3_ n a0 a1 a2=some r):Gv P (.func 9) (qp7_ a0 a1 a2) (qp8_ a0 a1 a2) (qmr_ a0 a1 a2 r) (qms_ a0 a1 a2 r):=by
 unfold qf3_ at h
 obtain⟨c1_,hc1,h⟩:=oB h
 obtain⟨hc2,h⟩:=gd h
 obtain rfl:=oI h
 exact runF2 hm ⟨[2],[(1,1,false)],2,1,[],false,[],[],[]⟩ (ww (qqa_ n (rnd:=none) a0 a1 a2 ((a1:Nat):Int) ([(0:Int),(0:Int),(0:Int),(0:Int)],0) c1_ hc1) <|
  ww (qc_ a0 3) <|
  ll 10 ⟨⟨[2,3,6,7,8],[(0,0,true),(1,1,false),(2,2,false)],3,1,[],false,[],[],[]⟩,(qfw_ a0 a1 a2 ((a1:Nat):Int) c1_).1,(qfw_ a0 a1 a2 ((a1:Nat):Int) c1_).2⟩ <|
  yy 12 (.ld (Value.agg #[(i6 ((c1_).getD 0 0)),(i6 ((c1_).getD 1 0)),(i6 ((c1_).getD 2 0)),(i6 ((c1_).getD 3 0))])) <|
  ww (p:=rdT (layT (iv c1_)) 4 0=some [(i6 ((c1_).getD 0 0)),(i6 ((c1_).getD 1 0)),(i6 ((c1_).getD 2 0)),(i6 ((c1_).getD 3 0))]) (arr_rd4  hc2) <|
  ee) (by kernel_rfl)

def qk8_ (a0 a1:Int):List Value:=[(i6 a0),(i6 a1)]
def qk9_ (a0 a1:Int):AH:=⟨sB [],0,0⟩
def qh5_ (a0 a1 r:Int):Value:=match r with
 | o0=>(i6 o0)
def qh6_ (a0 a1 r:Int):AH:=match r with
 | o0=>⟨sB [],0,0⟩
abbrev G_viewportkitPickq1 (a0 a1 r:Int):Prop:=Gv P (.func 10) (qk8_ a0 a1) (qk9_ a0 a1) (qh5_ a0 a1 r) (qh6_ a0 a1 r)
abbrev qqb_ (a0 a1 r:Int)(ins outs:BL):CallA:=⟨0,ins,qh5_ a0 a1 r,qh6_ a0 a1 r,outs⟩
def qd2_ (n:Nat)(a0 a1:Int):Option (Int):=
 if a1<1 then
  some 0
 else
  if ¬ (a1=0) then
   if (Int.tmod a0 a1)<0 then
    some (w64 ((Int.tmod a0 a1)+a1))
   else
    some (Int.tmod a0 a1)
  else none
theorem qn4_ (n:Nat)(a0 a1 r:Int)(h:qd2_ n a0 a1=some r):Gv P (.func 10) (qk8_ a0 a1) (qk9_ a0 a1) (qh5_ a0 a1 r) (qh6_ a0 a1 r):=by
 unfold qd2_ at h
 by_cases hc1:a1<1
 ·rw[if_pos hc1] at h
  obtain rfl:=oI h
  exact runF2 hm ⟨[4],[],0,0,[],false,[],[],[]⟩ (zz 5 (xdT hc1) <|
   ee) (by kernel_rfl)
 ·rw[if_neg hc1] at h
  obtain⟨hc2,h⟩:=gd h
  have k0:=fun {A L l} (k:PL A L l)=>zz 5 (xdF hc1) <|
   yy 10 (.pur (i6 (Int.tmod a0 a1))) <|
   ww (p:=opBin P .rem 3 (.tmp 8) (.tmp 9) (i6 a0) (i6 a1) Ax.h0=some ((i6 (Int.tmod a0 a1)),Ax.h0)) (remI hc2) <|
   k
  by_cases hc3:(Int.tmod a0 a1)<0
  ·rw[if_pos hc3] at h
   obtain rfl:=oI h
   exact runF2 hm ⟨[4],[],0,0,[],false,[],[],[]⟩ (k0 <|
    zz 15 (xdT hc3) <|
    ee) (by kernel_rfl)
  ·rw[if_neg hc3] at h
   obtain rfl:=oI h
   exact runF2 hm ⟨[4],[],0,0,[],false,[],[],[]⟩ (k0 <|
    zz 15 (xdF hc3) <|
    ee) (by kernel_rfl)

def qct_ (a0:List R8)(a1:Nat)(a2:Int):List Value:=[(sN 0 0 a1 (Nat.add big 8)),(i6 a2)]
def qcu_ (a0:List R8)(a1:Nat)(a2:Int):AH:=⟨sB [(0,(some (.cells (layT (rows rw_iiiiiiLu a0)) 35)))],1,1⟩
def qb4_ (a0:List R8)(a1:Nat)(a2 r:Int):Value:=match r with
 | o0=>(i6 o0)
def qb5_ (a0:List R8)(a1:Nat)(a2 r:Int):AH:=match r with
 | o0=>⟨sB [],1,1⟩
abbrev G_viewportref16endq2 (a0:List R8)(a1:Nat)(a2 r:Int):Prop:=Gv P (.func 16) (qct_ a0 a1 a2) (qcu_ a0 a1 a2) (qb4_ a0 a1 a2 r) (qb5_ a0 a1 a2 r)
abbrev qks_ (a0:List R8)(a1:Nat)(a2 r:Int)(ins outs:BL):CallA:=⟨1,ins,qb4_ a0 a1 a2 r,qb5_ a0 a1 a2 r,outs⟩
def qcb_ (x0:List R8)(x1:Nat)(x2:Int)(st:Int×Int×Int):XSt:=match st with
 | (x3,x4,x5)=>(sT 68 [(0,(sN 0 0 x1 (Nat.add big 8))),(1,(i6 x2)),(5,(i6 x3)),(6,(i6 x4)),(7,(i6 x5))],[],⟨sB [(0,(some (.cells (layT (rows rw_iiiiiiLu x0)) 35)))],1,1⟩)
def q3_ (x0:List R8)(x1:Nat)(x2:Int)(r:(Unit) ⊕ (Int×Int)):Ex×XSt:=match r with
 | .inl _=>(.ret,(sT 68 [(4,(i6 (-1:Int)))],[],⟨sB [(0,(some (.cells (layT (rows rw_iiiiiiLu x0)) 35)))],1,1⟩))
 | .inr (z0,z1)=>(.exit 0,(sT 68 [(0,(sN 0 0 x1 (Nat.add big 8))),(1,(i6 x2)),(5,(i6 z0)),(6,(i6 z1))],[],⟨sB [(0,(some (.cells (layT (rows rw_iiiiiiLu x0)) 35)))],1,1⟩))
abbrev Q_viewportref16endq2_1 (rnd:Option Nat)(x0:List R8)(x1:Nat)(x2:Int)(st:Int×Int×Int)(c:Ex×XSt):Prop:=CG P rnd (fnN P 16) 1 (qo_ P 16 [false,false,true,false,true,true]) (qcb_ x0 x1 x2 st) c
abbrev qi7_ (rd:Option Nat)(x0:List R8)(x1:Nat)(x2:Int)(st:Int×Int×Int)(r:(Unit) ⊕ (Int×Int)):Prop:=CG P rd (fnN P 16) 1 (qo_ P 16 [false,true,false,true,true]) (qcb_ x0 x1 x2 st) (q3_ x0 x1 x2 r)
def qq_ (rec_viewportref16endq2:(List R8)→(Nat)→(Int)→Option (Int))(n:Nat)(x0:List R8)(x1:Nat)(x2:Int)(st:Int×Int×Int):Option ((Int×Int×Int) ⊕ ((Unit) ⊕ (Int×Int))):=match st with
 | (x3,x4,x5)=>
  if 0≤x2∧x2<((x1:Nat):Int) then
   if (x2).toNat<(x0).length then
    ((some ((x0).getD (x2).toNat (0,0,0,0,0,0,nl0,0)))).bind fun y3_=>
    if x5<((((y3_.2.2.2.2.2.2.1)).l.length:Nat):Int) then
     if 0≤x5∧x5<((((y3_.2.2.2.2.2.2.1)).l.length:Nat):Int) then
      if (x5).toNat<(((y3_.2.2.2.2.2.2.1)).l).length then
       ((some ((((y3_.2.2.2.2.2.2.1)).l).getD (x5).toNat 0))).bind fun y7_=>
       if y7_=x3 then
        if x3 ≥ ((x1:Nat):Int) then
         some (.inr (.inl ()))
        else
         if 0≤x3∧x3<((x1:Nat):Int) then
          if (x3).toNat<(x0).length then
           ((some ((x0).getD (x3).toNat (0,0,0,0,0,0,nl0,0)))).bind fun y12_=>
           if (y12_.2.2.1)<x4 then
            some (.inr (.inl ()))
           else
            (rec_viewportref16endq2 x0 x1 x3).bind fun y14_=>
            if y14_<0 then
             some (.inr (.inl ()))
            else
             some (.inl (y14_,(y12_.2.2.2.2.1),(w64 (x5+1))))
          else none
         else none
       else
        some (.inr (.inl ()))
      else none
     else none
    else
     some (.inr (.inr (x3,x4)))
   else none
  else none
def qc3_ (rec_viewportref16endq2:(List R8)→(Nat)→(Int)→Option (Int))(n:Nat)(x0:List R8)(x1:Nat)(x2:Int)(st:Int×Int×Int):Option ((Unit) ⊕ (Int×Int)):=iterM (qq_ rec_viewportref16endq2 n x0 x1 x2) n st
theorem qi8_ (rec_viewportref16endq2:(List R8)→(Nat)→(Int)→Option (Int))(hrec_viewportref16endq2:∀ (a0:List R8) (a1:Nat) (a2:Int) (r:Int),rec_viewportref16endq2 a0 a1 a2=some r→Gv P (.func 16) (qct_ a0 a1 a2) (qcu_ a0 a1 a2) (qb4_ a0 a1 a2 r) (qb5_ a0 a1 a2 r))(n:Nat){rnd:Option Nat}(x0:List R8)(x1:Nat)(x2:Int)(st:Int×Int×Int)(o:(Int×Int×Int) ⊕ ((Unit) ⊕ (Int×Int)))(h:qq_ rec_viewportref16endq2 n x0 x1 x2 st=some o):CG P rnd (fnN P 16) 1 (qo_ P 16 [false,false,true,false,true,true]) (qcb_ x0 x1 x2 st) (Sum.elim (fun s=>(.normal,qcb_ x0 x1 x2 s)) (fun r=>q3_ x0 x1 x2 r) o):=by
 obtain⟨x3,x4,x5⟩:=st
 unfold qq_ at h
 dsimp only at h
 obtain⟨hy1,h⟩:=gd h
 obtain⟨hy2,h⟩:=gd h
 obtain⟨y3_,hy3,h⟩:=oB h
 have k0:=fun {A L l} (k:PL A L l)=>zz 5 (xk13 0 U8 hy1) <|
  zz 7 (ok18 hy3 (hy2)) <|
  k
 by_cases hy4:x5<((((y3_.2.2.2.2.2.2.1)).l.length:Nat):Int)
 ·rw[if_pos hy4] at h
  obtain⟨hy5,h⟩:=gd h
  obtain⟨hy6,h⟩:=gd h
  obtain⟨y7_,hy7,h⟩:=oB h
  have k2:=fun {A L l} (k:PL A L l)=>zz 9 (xdT hy4) <|
   zz 17 (xk13 0 U8 hy1) <|
   zz 19 (ok18 hy3 (hy2)) <|
   zz 21 (xk9 (Nat.add ((y3_.2.2.2.2.2.2.1)).num 64) ((y3_.2.2.2.2.2.2.1)).off ((y3_.2.2.2.2.2.2.1)).cap hy5) <|
   zz 22 (nk10 hy7 hy6) <|
   k
  by_cases hy8:y7_=x3
  ·rw[if_pos hy8] at h
   have k7:=fun {A L l} (k:PL A L l)=>zz 24 (xnF hy8) <|
    k
   by_cases hy9:x3 ≥ ((x1:Nat):Int)
   ·rw[if_pos hy9] at h
    obtain rfl:=oI h
    exact runC2 hm ⟨[4],[(0,0,true)],1,1,[],false,[],[],[]⟩ (k0 <|
     k2 <|
     k7 <|
     zz 29 (xdT hy9) <|
     ww (qa_ rwf_iiiiiiLu x0 35) <|
     ee) (by kernel_rfl)
   ·rw[if_neg hy9] at h
    obtain⟨hy10,h⟩:=gd h
    obtain⟨hy11,h⟩:=gd h
    obtain⟨y12_,hy12,h⟩:=oB h
    have k8:=fun {A L l} (k:PL A L l)=>zz 29 (xdF hy9) <|
     zz 34 (xk13 0 U8 hy10) <|
     zz 36 (ok24 hy12 (hy11)) <|
     k
    by_cases hy13:(y12_.2.2.1)<x4
    ·rw[if_pos hy13] at h
     obtain rfl:=oI h
     exact runC2 hm ⟨[4],[(0,0,true)],1,1,[],false,[],[],[]⟩ (k0 <|
      k2 <|
      k7 <|
      k8 <|
      zz 38 (xdT hy13) <|
      ww (qa_ rwf_iiiiiiLu x0 35) <|
      ee) (by kernel_rfl)
    ·rw[if_neg hy13] at h
     obtain⟨y14_,hy14,h⟩:=oB h
     have k11:=fun {A L l} (k:PL A L l)=>zz 38 (xdF hy13) <|
      zz 44 (xk13 0 U8 hy10) <|
      zz 46 (ok25 hy12 (hy11)) <|
      yy 51 (.call (qks_ x0 x1 x3 y14_ [(0,0,true)] [])) <|
      ww (hrec_viewportref16endq2 x0 x1 x3 y14_ hy14) <|
      ww (qa_ rwf_iiiiiiLu x0 35) <|
      k
     by_cases hy15:y14_<0
     ·rw[if_pos hy15] at h
      obtain rfl:=oI h
      exact runC2 hm ⟨[4],[(0,0,true)],1,1,[],false,[],[],[]⟩ (k0 <|
       k2 <|
       k7 <|
       k8 <|
       k11 <|
       zz 55 (xdT hy15) <|
       ww (qa_ rwf_iiiiiiLu x0 35) <|
       ee) (by kernel_rfl)
     ·rw[if_neg hy15] at h
      obtain rfl:=oI h
      exact runC2 hm ⟨[0,1,5,6,7],[(0,0,true)],1,1,[],false,[],[],[]⟩ (k0 <|
       k2 <|
       k7 <|
       k8 <|
       k11 <|
       zz 55 (xdF hy15) <|
       ww (qa_ rwf_iiiiiiLu x0 35) <|
       ee) (by kernel_rfl)
  ·rw[if_neg hy8] at h
   obtain rfl:=oI h
   exact runC2 hm ⟨[4],[(0,0,true)],1,1,[],false,[],[],[]⟩ (k0 <|
    k2 <|
    zz 24 (xnT hy8) <|
    ww (qa_ rwf_iiiiiiLu x0 35) <|
    ee) (by kernel_rfl)
 ·rw[if_neg hy4] at h
  obtain rfl:=oI h
  exact runC2 hm ⟨[0,1,5,6],[(0,0,true)],1,1,[],false,[],[],[]⟩ (k0 <|
   zz 9 (xdF hy4) <|
   ww (qa_ rwf_iiiiiiLu x0 35) <|
   ee) (by kernel_rfl)
theorem qhl_ (rec_viewportref16endq2:(List R8)→(Nat)→(Int)→Option (Int))(hrec_viewportref16endq2:∀ (a0:List R8) (a1:Nat) (a2:Int) (r:Int),rec_viewportref16endq2 a0 a1 a2=some r→Gv P (.func 16) (qct_ a0 a1 a2) (qcu_ a0 a1 a2) (qb4_ a0 a1 a2 r) (qb5_ a0 a1 a2 r))(n:Nat){rnd:Option Nat}(x0:List R8)(x1:Nat)(x2:Int)(st:Int×Int×Int)(r:(Unit) ⊕ (Int×Int))(h:qc3_ rec_viewportref16endq2 n x0 x1 x2 st=some r):CG P rnd (fnN P 16) 1 (qo_ P 16 [false,true,false,true,true]) (qcb_ x0 x1 x2 st) (q3_ x0 x1 x2 r):=
 CG.iter (b:=qo_ P 16 [false,false,true,false,true,true]) (by kernel_rfl) (body:=qq_ rec_viewportref16endq2 n x0 x1 x2) (S:=qcb_ x0 x1 x2) (X:=q3_ x0 x1 x2)
  (fun s s' h=>qi8_ rec_viewportref16endq2 hrec_viewportref16endq2 n x0 x1 x2 s (.inl s') h)
  (fun s r h=>qi8_ rec_viewportref16endq2 hrec_viewportref16endq2 n x0 x1 x2 s (.inr r) h)
  (fun r=>by intro hx; rcases r with _ | _<;>cases hx) h
def qb6_ (rec_viewportref16endq2:(List R8)→(Nat)→(Int)→Option (Int))(n:Nat)(a0:List R8)(a1:Nat)(a2:Int):Option (Int):=
 if 0≤a2∧a2<((a1:Nat):Int) then
  if (a2).toNat<(a0).length then
   ((some ((a0).getD (a2).toNat (0,0,0,0,0,0,nl0,0)))).bind fun c3_=>
   match qc3_ rec_viewportref16endq2 n a0 a1 a2 ((w64 (a2+1)),(c3_.2.2.1),0) with
   | none=>none
   | some (.inl _)=>
    some (-1)
   | some (.inr (c4_0,c4_1))=>
    if c4_1 > (c3_.2.2.2.2.1) then
     some (-1)
    else
     some c4_0
  else none
 else none
theorem qm3_ (rec_viewportref16endq2:(List R8)→(Nat)→(Int)→Option (Int))(hrec_viewportref16endq2:∀ (a0:List R8) (a1:Nat) (a2:Int) (r:Int),rec_viewportref16endq2 a0 a1 a2=some r→Gv P (.func 16) (qct_ a0 a1 a2) (qcu_ a0 a1 a2) (qb4_ a0 a1 a2 r) (qb5_ a0 a1 a2 r))(n:Nat)(a0:List R8)(a1:Nat)(a2 r:Int)(h:qb6_ rec_viewportref16endq2 n a0 a1 a2=some r):Gv P (.func 16) (qct_ a0 a1 a2) (qcu_ a0 a1 a2) (qb4_ a0 a1 a2 r) (qb5_ a0 a1 a2 r):=by
 unfold qb6_ at h
 obtain⟨hc1,h⟩:=gd h
 obtain⟨hc2,h⟩:=gd h
 obtain⟨c3_,hc3,h⟩:=oB h
 have k0:=fun {A L l} (k:PL A L l)=>zz 7 (xk13 0 U8 hc1) <|
  zz 9 (ok24 hc3 (hc2)) <|
  k
 rcases hc4:qc3_ rec_viewportref16endq2 n a0 a1 a2 ((w64 (a2+1)),(c3_.2.2.1),0) with _ | (⟨⟩ | ⟨c4_0,c4_1⟩)
 ·rw[hc4] at h; cases h
 ·rw[hc4] at h
  dsimp only at h
  obtain rfl:=oI h
  exact runF2 hm ⟨[4],[],1,1,[],false,[],[],[]⟩ (k0 <|
   ww (p:=qi7_ none a0 a1 a2 ((w64 (a2+1)),(c3_.2.2.1),0) (.inl ())) (qhl_ rec_viewportref16endq2 hrec_viewportref16endq2 n a0 a1 a2 ((w64 (a2+1)),(c3_.2.2.1),0) (.inl ()) hc4) <|
   ww (qa_ rwf_iiiiiiLu a0 35) <|
   ll 16 ⟨⟨[0,1,5,6,7],[(0,0,true)],1,1,[],false,[],[],[]⟩,(q3_ a0 a1 a2 (.inl ())).1,(q3_ a0 a1 a2 (.inl ())).2⟩ <|
   ee) (by kernel_rfl)
 ·rw[hc4] at h
  dsimp only at h
  have k2:=fun {A L l} (k:PL A L l)=>ww (p:=qi7_ none a0 a1 a2 ((w64 (a2+1)),(c3_.2.2.1),0) (.inr (c4_0,c4_1))) (qhl_ rec_viewportref16endq2 hrec_viewportref16endq2 n a0 a1 a2 ((w64 (a2+1)),(c3_.2.2.1),0) (.inr (c4_0,c4_1)) hc4) <|
   ww (qa_ rwf_iiiiiiLu a0 35) <|
   ll 16 ⟨⟨[0,1,5,6,7],[(0,0,true)],1,1,[],false,[],[],[]⟩,(q3_ a0 a1 a2 (.inr (c4_0,c4_1))).1,(q3_ a0 a1 a2 (.inr (c4_0,c4_1))).2⟩ <|
   zz 22 (xk13 0 U8 hc1) <|
   zz 24 (ok25 hc3 (hc2)) <|
   k
  by_cases hc5:c4_1 > (c3_.2.2.2.2.1)
  ·rw[if_pos hc5] at h
   obtain rfl:=oI h
   exact runF2 hm ⟨[4],[],1,1,[],false,[],[],[]⟩ (k0 <|
    k2 <|
    zz 25 (xdT hc5) <|
    ee) (by kernel_rfl)
  ·rw[if_neg hc5] at h
   obtain rfl:=oI h
   exact runF2 hm ⟨[4],[],1,1,[],false,[],[],[]⟩ (k0 <|
    k2 <|
    zz 25 (xdF hc5) <|
    ee) (by kernel_rfl)
def qk_:Nat→(List R8)→(Nat)→(Int)→Option (Int)
 | 0=>fun _ _ _=>none
 | n+1=>fun a0 a1 a2=>qb6_ (qk_ n) n a0 a1 a2
theorem qid_:∀ (n:Nat) (a0:List R8) (a1:Nat) (a2:Int) (r:Int) (h:qk_ n a0 a1 a2=some r),Gv P (.func 16) (qct_ a0 a1 a2) (qcu_ a0 a1 a2) (qb4_ a0 a1 a2 r) (qb5_ a0 a1 a2 r)
 | 0,_,_,_,_,h=>nomatch h
 | n+1,a0,a1,a2,r,h=>qm3_ (qk_ n) (qid_ n) n a0 a1 a2 r h

def qi9_ (a0:List R8)(a1:Nat):List Value:=[(sN 0 0 a1 (Nat.add big 8))]
def qja_ (a0:List R8)(a1:Nat):AH:=⟨sB [(0,(some (.cells (layT (rows rw_iiiiiiLu a0)) 35)))],1,1⟩
def qfx_ (a0:List R8)(a1:Nat)(r:Int):Value:=match r with
 | o0=>(i6 o0)
def qfy_ (a0:List R8)(a1:Nat)(r:Int):AH:=match r with
 | o0=>⟨sB [],1,1⟩
abbrev G_viewportref16Checkq2 (a0:List R8)(a1:Nat)(r:Int):Prop:=Gv P (.func 6) (qi9_ a0 a1) (qja_ a0 a1) (qfx_ a0 a1 r) (qfy_ a0 a1 r)
abbrev qn5_ (a0:List R8)(a1:Nat)(r:Int)(ins outs:BL):CallA:=⟨1,ins,qfx_ a0 a1 r,qfy_ a0 a1 r,outs⟩
def qcj_ (x0:List R8)(x1:Nat)(st:Int):XSt:=match st with
 | x2=>(sT 41 [(0,(sN 0 0 x1 (Nat.add big 8))),(3,(i6 x2))],[],⟨sB [(0,(some (.cells (layT (rows rw_iiiiiiLu x0)) 35)))],1,1⟩)
def qba_ (x0:List R8)(x1:Nat)(r:(Unit) ⊕ (Unit)):Ex×XSt:=match r with
 | .inl _=>(.ret,(sT 41 [(2,(i6 (2:Int)))],[],⟨sB [(0,(some (.cells (layT (rows rw_iiiiiiLu x0)) 35)))],1,1⟩))
 | .inr _=>(.exit 0,(sT 41 [(0,(sN 0 0 x1 (Nat.add big 8)))],[],⟨sB [(0,(some (.cells (layT (rows rw_iiiiiiLu x0)) 35)))],1,1⟩))
abbrev qwh_ (rnd:Option Nat)(x0:List R8)(x1:Nat)(st:Int)(c:Ex×XSt):Prop:=CG P rnd (fnN P 6) 1 (qo_ P 6 [false,false,true,false,true,true]) (qcj_ x0 x1 st) c
def qbb_ (n:Nat)(x0:List R8)(x1:Nat)(st:Int):Option ((Int) ⊕ ((Unit) ⊕ (Unit))):=match st with
 | x2=>
  if x2<((x1:Nat):Int) then
   if 0≤x2∧x2<((x1:Nat):Int) then
    if (x2).toNat<(x0).length then
     ((some ((x0).getD (x2).toNat (0,0,0,0,0,0,nl0,0)))).bind fun y4_=>
     (qp_ n (y4_.1) (y4_.2.1) (y4_.2.2.1) (y4_.2.2.2.1) (y4_.2.2.2.2.1) (y4_.2.2.2.2.2.1) (y4_.2.2.2.2.2.2.1) (y4_.2.2.2.2.2.2.2)).bind fun y5_=>
     if y5_=true then
      if x2 > 0 then
       if (y4_.2.1)=1 then
        some (.inr (.inl ()))
       else
        some (.inl (w64 (x2+1)))
      else
       some (.inl (w64 (x2+1)))
     else
      some (.inr (.inl ()))
    else none
   else none
  else
   some (.inr (.inr ()))
def qdh_ (n:Nat)(x0:List R8)(x1:Nat)(st:Int):Option ((Unit) ⊕ (Unit)):=iterM (qbb_ n x0 x1) n st
theorem qh7_ (n:Nat){rnd:Option Nat}(x0:List R8)(x1:Nat)(x2:Int)(o:(Int) ⊕ ((Unit) ⊕ (Unit)))(h:qbb_ n x0 x1 x2=some o):CG P rnd (fnN P 6) 1 (qo_ P 6 [false,false,true,false,true,true]) (qcj_ x0 x1 x2) (Sum.elim (fun s=>(.normal,qcj_ x0 x1 s)) (fun r=>qba_ x0 x1 r) o):=by
 unfold qbb_ at h
 dsimp only at h
 by_cases hy1:x2<((x1:Nat):Int)
 ·rw[if_pos hy1] at h
  obtain⟨hy2,h⟩:=gd h
  obtain⟨hy3,h⟩:=gd h
  obtain⟨y4_,hy4,h⟩:=oB h
  obtain⟨y5_,hy5,h⟩:=oB h
  have k0:=fun {A L l} (k:PL A L l)=>zz 5 (xdT hy1) <|
   zz 12 (xk13 0 U8 hy2) <|
   yy 13 (.ld (Value.agg #[(i6 (y4_.1)),(i6 (y4_.2.1)),(i6 (y4_.2.2.1)),(i6 (y4_.2.2.2.1)),(i6 (y4_.2.2.2.2.1)),(i6 (y4_.2.2.2.2.2.1)),(nlV (y4_.2.2.2.2.2.2.1)),(Value.int .u64 (y4_.2.2.2.2.2.2.2))])) <|
   ww (p:=rdT (layT (rows rw_iiiiiiLu x0)) 8 ((x2).toNat*8)=some [(i6 (y4_.1)),(i6 (y4_.2.1)),(i6 (y4_.2.2.1)),(i6 (y4_.2.2.2.1)),(i6 (y4_.2.2.2.2.1)),(i6 (y4_.2.2.2.2.2.1)),(nlV (y4_.2.2.2.2.2.2.1)),(Value.int .u64 (y4_.2.2.2.2.2.2.2))]) (qjw_ rwf_iiiiiiLu (0,0,0,0,0,0,nl0,0) (hr:=hy4) (i:=(x2).toNat) (j:=0) ((x2).toNat*8) rfl (hy3) (by decide) rfl) <|
   yy 14 (.call (qjj_ (y4_.1) (y4_.2.1) (y4_.2.2.1) (y4_.2.2.2.1) (y4_.2.2.2.2.1) (y4_.2.2.2.2.2.1) (y4_.2.2.2.2.2.2.1) (y4_.2.2.2.2.2.2.2) y5_ [] [])) <|
   ww (qhs_ n (y4_.1) (y4_.2.1) (y4_.2.2.1) (y4_.2.2.2.1) (y4_.2.2.2.2.1) (y4_.2.2.2.2.2.1) (y4_.2.2.2.2.2.2.1) (y4_.2.2.2.2.2.2.2) y5_ hy5) <|
   k
  by_cases hy6:y5_=true
  ·rw[if_pos hy6] at h
   have k6:=fun {A L l} (k:PL A L l)=>yy 15 (vf) <|
    ww (p:=(Value.bool (!y5_))=(Value.bool false)) (vBn hy6) <|
    k
   by_cases hy7:x2 > 0
   ·rw[if_pos hy7] at h
    have k8:=fun {A L l} (k:PL A L l)=>zz 18 (xdT hy7) <|
     zz 22 (xk13 0 U8 hy2) <|
     zz 24 (ok21 hy4 (hy3)) <|
     k
    by_cases hy8:(y4_.2.1)=1
    ·rw[if_pos hy8] at h
     obtain rfl:=oI h
     exact runC2 hm ⟨[2],[(0,0,true)],1,1,[],false,[],[],[]⟩ (k0 <|
      k6 <|
      k8 <|
      zz 25 (xeT hy8) <|
      ww (qa_ rwf_iiiiiiLu x0 35) <|
      ee) (by kernel_rfl)
    ·rw[if_neg hy8] at h
     obtain rfl:=oI h
     exact runC2 hm ⟨[0,3],[(0,0,true)],1,1,[],false,[],[],[]⟩ (k0 <|
      k6 <|
      k8 <|
      zz 25 (xeF hy8) <|
      ww (qa_ rwf_iiiiiiLu x0 35) <|
      ee) (by kernel_rfl)
   ·rw[if_neg hy7] at h
    obtain rfl:=oI h
    exact runC2 hm ⟨[0,3],[(0,0,true)],1,1,[],false,[],[],[]⟩ (k0 <|
     k6 <|
     zz 18 (xdF hy7) <|
     ww (qa_ rwf_iiiiiiLu x0 35) <|
     ee) (by kernel_rfl)
  ·rw[if_neg hy6] at h
   obtain rfl:=oI h
   exact runC2 hm ⟨[2],[(0,0,true)],1,1,[],false,[],[],[]⟩ (k0 <|
    yy 15 (vt) <|
    ww (p:=(Value.bool (!y5_))=(Value.bool true)) (vBn (Bool.eq_false_iff.2 hy6)) <|
    ww (qa_ rwf_iiiiiiLu x0 35) <|
    ee) (by kernel_rfl)
 ·rw[if_neg hy1] at h
  obtain rfl:=oI h
  exact runC2 hm ⟨[0],[(0,0,true)],1,1,[],false,[],[],[]⟩ (zz 5 (xdF hy1) <|
   ww (qa_ rwf_iiiiiiLu x0 35) <|
   ee) (by kernel_rfl)
theorem qf9_ (n:Nat){rnd:Option Nat}(x0:List R8)(x1:Nat)(st:Int)(r:(Unit) ⊕ (Unit))(h:qdh_ n x0 x1 st=some r):CG P rnd (fnN P 6) 1 (qo_ P 6 [false,true,false,true,true]) (qcj_ x0 x1 st) (qba_ x0 x1 r):=
 CG.iter (b:=qo_ P 6 [false,false,true,false,true,true]) (by kernel_rfl) (body:=qbb_ n x0 x1) (S:=qcj_ x0 x1) (X:=qba_ x0 x1)
  (fun s s' h=>qh7_ n x0 x1 s (.inl s') h)
  (fun s r h=>qh7_ n x0 x1 s (.inr r) h)
  (fun r=>by intro hx; rcases r with _ | _<;>cases hx) h
def qbl_ (n:Nat)(a0:List R8)(a1:Nat):Option (Int):=
 if ((a1:Nat):Int) > 524288 then
  some 3
 else
  match qdh_ n a0 a1 0 with
  | none=>none
  | some (.inl _)=>
   some 2
  | some (.inr _)=>
   if ((a1:Nat):Int)=0 then
    some 2
   else
    (qk_ n a0 a1 0).bind fun c4_=>
    if c4_=((a1:Nat):Int) then
     some 0
    else
     some 2
theorem ql4_ (n:Nat)(a0:List R8)(a1:Nat)(r:Int)(h:qbl_ n a0 a1=some r):Gv P (.func 6) (qi9_ a0 a1) (qja_ a0 a1) (qfx_ a0 a1 r) (qfy_ a0 a1 r):=by
 unfold qbl_ at h
 by_cases hc1:((a1:Nat):Int) > 524288
 ·rw[if_pos hc1] at h
  obtain rfl:=oI h
  exact runF2 hm ⟨[2],[],1,1,[],false,[],[],[]⟩ (zz 6 (xdT hc1) <|
   ee) (by kernel_rfl)
 ·rw[if_neg hc1] at h
  have k0:=fun {A L l} (k:PL A L l)=>zz 6 (xdF hc1) <|
   k
  rcases hc2:qdh_ n a0 a1 0 with _ | (⟨⟩ | ⟨⟩)
  ·rw[hc2] at h; cases h
  ·rw[hc2] at h
   dsimp only at h
   obtain rfl:=oI h
   exact runF2 hm ⟨[2],[],1,1,[],false,[],[],[]⟩ (k0 <|
    ww (qf9_ n (rnd:=none) a0 a1 0 (.inl ()) hc2) <|
    ww (qa_ rwf_iiiiiiLu a0 35) <|
    ll 12 ⟨⟨[0,3],[(0,0,true)],1,1,[],false,[],[],[]⟩,(qba_ a0 a1 (.inl ())).1,(qba_ a0 a1 (.inl ())).2⟩ <|
    ee) (by kernel_rfl)
  ·rw[hc2] at h
   dsimp only at h
   have k1:=fun {A L l} (k:PL A L l)=>ww (qf9_ n (rnd:=none) a0 a1 0 (.inr ()) hc2) <|
    ww (qa_ rwf_iiiiiiLu a0 35) <|
    ll 12 ⟨⟨[0,3],[(0,0,true)],1,1,[],false,[],[],[]⟩,(qba_ a0 a1 (.inr ())).1,(qba_ a0 a1 (.inr ())).2⟩ <|
    k
   by_cases hc3:((a1:Nat):Int)=0
   ·rw[if_pos hc3] at h
    obtain rfl:=oI h
    exact runF2 hm ⟨[2],[],1,1,[],false,[],[],[]⟩ (k0 <|
     k1 <|
     zz 17 (xeT hc3) <|
     ee) (by kernel_rfl)
   ·rw[if_neg hc3] at h
    obtain⟨c4_,hc4,h⟩:=oB h
    have k4:=fun {A L l} (k:PL A L l)=>zz 17 (xeF hc3) <|
     yy 20 (.call (qks_ a0 a1 0 c4_ [(0,0,true)] [])) <|
     ww (qid_ n a0 a1 0 c4_ hc4) <|
     ww (qa_ rwf_iiiiiiLu a0 35) <|
     k
    by_cases hc5:c4_=((a1:Nat):Int)
    ·rw[if_pos hc5] at h
     obtain rfl:=oI h
     exact runF2 hm ⟨[2],[],1,1,[],false,[],[],[]⟩ (k0 <|
      k1 <|
      k4 <|
      zz 23 (xnF hc5) <|
      ee) (by kernel_rfl)
    ·rw[if_neg hc5] at h
     obtain rfl:=oI h
     exact runF2 hm ⟨[2],[],1,1,[],false,[],[],[]⟩ (k0 <|
      k1 <|
      k4 <|
      zz 23 (xnT hc5) <|
      ee) (by kernel_rfl)

def qet_ (a0:List R8)(a1:Nat):List Value:=[(sN 0 0 a1 (Nat.add big 8))]
def qeu_ (a0:List R8)(a1:Nat):AH:=⟨sB [(0,(some (.cells (layT (rows rw_iiiiiiLu a0)) 35)))],1,1⟩
def qev_ (a0:List R8)(a1:Nat)(r:NL):Value:=match r with
 | o0=>(nlV o0)
def qdi_ (a0:List R8)(a1:Nat)(r:NL):AH:=match r with
 | o0=>⟨sB [],1,1⟩
abbrev qwi_ (a0:List R8)(a1:Nat)(r:NL):Prop:=Gv P (.func 11) (qet_ a0 a1) (qeu_ a0 a1) (qev_ a0 a1 r) (qdi_ a0 a1 r)
abbrev qmt_ (a0:List R8)(a1:Nat)(r:NL)(ins outs:BL):CallA:=⟨1,ins,qev_ a0 a1 r,qdi_ a0 a1 r,outs⟩
def qbw_ (x0:List R8)(x1 x3:Nat)(x4:Int)(st:List Int×Int):XSt:=match st with
 | (x2,x5)=>(sT 42 [(0,(sN 0 0 x1 (Nat.add big 8))),(3,(sN 1 0 x3 x3)),(4,(i6 x4)),(5,(i6 x5))],[],⟨sB [(0,(some (.cells (layT (rows rw_iiiiiiLu x0)) 35))),(1,(some (.cells (layT (iv x2)) 3)))],2,1⟩)
def qbx_ (x0:List R8)(x1 x3:Nat)(x4:Int)(r:List Int):Ex×XSt:=match r with
 | z0=>(.exit 2,(sT 42 [(0,(sN 0 0 x1 (Nat.add big 8))),(3,(sN 1 0 x3 x3)),(4,(i6 x4))],[],⟨sB [(0,(some (.cells (layT (rows rw_iiiiiiLu x0)) 35))),(1,(some (.cells (layT (iv z0)) 3)))],2,1⟩))
abbrev qt5_ (rnd:Option Nat)(x0:List R8)(x1 x3:Nat)(x4:Int)(st:List Int×Int)(c:Ex×XSt):Prop:=CG P rnd (fnN P 11) 1 (qo_ P 11 [false,false,true,false,false,true,false,false,true,false,true,true,true,true]) (qbw_ x0 x1 x3 x4 st) c
def qx_ (n:Nat)(x0:List R8)(x1 x3:Nat)(x4:Int)(st:List Int×Int):Option ((List Int×Int) ⊕ (List Int)):=match st with
 | (x2,x5)=>
  if 0≤x4∧x4<((x1:Nat):Int) then
   if (x4).toNat<(x0).length then
    ((some ((x0).getD (x4).toNat (0,0,0,0,0,0,nl0,0)))).bind fun y3_=>
    if x5<((((y3_.2.2.2.2.2.2.1)).l.length:Nat):Int) then
     if 0≤x5∧x5<((((y3_.2.2.2.2.2.2.1)).l.length:Nat):Int) then
      if (x5).toNat<(((y3_.2.2.2.2.2.2.1)).l).length then
       ((some ((((y3_.2.2.2.2.2.2.1)).l).getD (x5).toNat 0))).bind fun y7_=>
       if 0≤y7_∧y7_<((x3:Nat):Int) then
        if (y7_).toNat<(x2).length then
         some (.inl (((x2).set (y7_).toNat x4),(w64 (x5+1))))
        else none
       else none
      else none
     else none
    else
     some (.inr x2)
   else none
  else none
def qd7_ (n:Nat)(x0:List R8)(x1 x3:Nat)(x4:Int)(st:List Int×Int):Option (List Int):=iterM (qx_ n x0 x1 x3 x4) n st
theorem qgv_ (n:Nat){rnd:Option Nat}(x0:List R8)(x1 x3:Nat)(x4:Int)(st:List Int×Int)(o:(List Int×Int) ⊕ (List Int))(h:qx_ n x0 x1 x3 x4 st=some o):CG P rnd (fnN P 11) 1 (qo_ P 11 [false,false,true,false,false,true,false,false,true,false,true,true,true,true]) (qbw_ x0 x1 x3 x4 st) (Sum.elim (fun s=>(.normal,qbw_ x0 x1 x3 x4 s)) (fun r=>qbx_ x0 x1 x3 x4 r) o):=by
 obtain⟨x2,x5⟩:=st
 unfold qx_ at h
 dsimp only at h
 obtain⟨hy1,h⟩:=gd h
 obtain⟨hy2,h⟩:=gd h
 obtain⟨y3_,hy3,h⟩:=oB h
 have k0:=fun {A L l} (k:PL A L l)=>zz 5 (xk13 0 U8 hy1) <|
  zz 7 (ok18 hy3 (hy2)) <|
  k
 by_cases hy4:x5<((((y3_.2.2.2.2.2.2.1)).l.length:Nat):Int)
 ·rw[if_pos hy4] at h
  obtain⟨hy5,h⟩:=gd h
  obtain⟨hy6,h⟩:=gd h
  obtain⟨y7_,hy7,h⟩:=oB h
  obtain⟨hy8,h⟩:=gd h
  obtain⟨hy9,h⟩:=gd h
  obtain rfl:=oI h
  exact runC2 hm ⟨[0,3,4,5],[(0,0,true),(1,1,true)],2,1,[],false,[],[],[]⟩ (k0 <|
   zz 9 (xdT hy4) <|
   zz 16 (xk13 0 U8 hy1) <|
   zz 18 (ok18 hy3 (hy2)) <|
   zz 20 (xk9 (Nat.add ((y3_.2.2.2.2.2.2.1)).num 64) ((y3_.2.2.2.2.2.2.1)).off ((y3_.2.2.2.2.2.2.1)).cap hy5) <|
   zz 21 (nk10 hy7 hy6) <|
   zz 23 (xk19 1 x3 hy8) <|
   z2 24 (stI (x4) hy9) <|
   ww (qa_ rwf_iiiiiiLu x0 35) <|
   ww (qc_ ((x2).set (y7_).toNat x4) 3) <|
   ee) (by kernel_rfl)
 ·rw[if_neg hy4] at h
  obtain rfl:=oI h
  exact runC2 hm ⟨[0,3,4],[(0,0,true),(1,1,true)],2,1,[],false,[],[],[]⟩ (k0 <|
   zz 9 (xdF hy4) <|
   ww (qa_ rwf_iiiiiiLu x0 35) <|
   ww (qc_ x2 3) <|
   ee) (by kernel_rfl)
theorem qjz_ (n:Nat){rnd:Option Nat}(x0:List R8)(x1 x3:Nat)(x4:Int)(st:List Int×Int)(r:List Int)(h:qd7_ n x0 x1 x3 x4 st=some r):CG P rnd (fnN P 11) 1 (qo_ P 11 [false,true,false,false,true,false,false,true,false,true,true,true,true]) (qbw_ x0 x1 x3 x4 st) (qbx_ x0 x1 x3 x4 r):=
 CG.iter (b:=qo_ P 11 [false,false,true,false,false,true,false,false,true,false,true,true,true,true]) (by kernel_rfl) (body:=qx_ n x0 x1 x3 x4) (S:=qbw_ x0 x1 x3 x4) (X:=qbx_ x0 x1 x3 x4)
  (fun s s' h=>qgv_ n x0 x1 x3 x4 s (.inl s') h)
  (fun s r h=>qgv_ n x0 x1 x3 x4 s (.inr r) h)
  (fun r=>by intro hx; cases hx) h
def qby_ (x0:List R8)(x1 x3:Nat)(st:List Int×Int):XSt:=match st with
 | (x2,x4)=>(sT 42 [(0,(sN 0 0 x1 (Nat.add big 8))),(3,(sN 1 0 x3 x3)),(4,(i6 x4))],[],⟨sB [(0,(some (.cells (layT (rows rw_iiiiiiLu x0)) 35))),(1,(some (.cells (layT (iv x2)) 3)))],2,1⟩)
def qbz_ (x0:List R8)(x1 x3:Nat)(r:List Int):Ex×XSt:=match r with
 | z0=>(.exit 0,(sT 42 [(3,(sN 1 0 x3 x3))],[],⟨sB [(0,(some (.cells (layT (rows rw_iiiiiiLu x0)) 35))),(1,(some (.cells (layT (iv z0)) 3)))],2,1⟩))
abbrev qt6_ (rnd:Option Nat)(x0:List R8)(x1 x3:Nat)(st:List Int×Int)(c:Ex×XSt):Prop:=CG P rnd (fnN P 11) 1 (qo_ P 11 [false,false,true,false,true,true,true,true]) (qby_ x0 x1 x3 st) c
def qy_ (n:Nat)(x0:List R8)(x1 x3:Nat)(st:List Int×Int):Option ((List Int×Int) ⊕ (List Int)):=match st with
 | (x2,x4)=>
  if x4<((x1:Nat):Int) then
   (qd7_ n x0 x1 x3 x4 (x2,0)).bind fun y2_=>
   some (.inl (y2_,(w64 (x4+1))))
  else
   some (.inr x2)
def qcx_ (n:Nat)(x0:List R8)(x1 x3:Nat)(st:List Int×Int):Option (List Int):=iterM (qy_ n x0 x1 x3) n st
theorem qgw_ (n:Nat){rnd:Option Nat}(x0:List R8)(x1 x3:Nat)(st:List Int×Int)(o:(List Int×Int) ⊕ (List Int))(h:qy_ n x0 x1 x3 st=some o):CG P rnd (fnN P 11) 1 (qo_ P 11 [false,false,true,false,true,true,true,true]) (qby_ x0 x1 x3 st) (Sum.elim (fun s=>(.normal,qby_ x0 x1 x3 s)) (fun r=>qbz_ x0 x1 x3 r) o):=by
 obtain⟨x2,x4⟩:=st
 unfold qy_ at h
 dsimp only at h
 by_cases hy1:x4<((x1:Nat):Int)
 ·rw[if_pos hy1] at h
  obtain⟨y2_,hy2,h⟩:=oB h
  obtain rfl:=oI h
  exact runC2 hm ⟨[0,3,4],[(0,0,true),(1,1,true)],2,1,[],false,[],[],[]⟩ (zz 5 (xdT hy1) <|
   ww (qjz_ n (rnd:=rnd) x0 x1 x3 x4 (x2,0) y2_ hy2) <|
   ww (qa_ rwf_iiiiiiLu x0 35) <|
   ww (qc_ x2 3) <|
   ll 12 ⟨⟨[0,3,4,5],[(0,0,true),(1,1,true)],2,1,[],false,[],[],[]⟩,(qbx_ x0 x1 x3 x4 y2_).1,(qbx_ x0 x1 x3 x4 y2_).2⟩ <|
   ww (qa_ rwf_iiiiiiLu x0 35) <|
   ww (qc_ y2_ 3) <|
   ee) (by kernel_rfl)
 ·rw[if_neg hy1] at h
  obtain rfl:=oI h
  exact runC2 hm ⟨[3],[(0,0,true),(1,1,true)],2,1,[],false,[],[],[]⟩ (zz 5 (xdF hy1) <|
   ww (qa_ rwf_iiiiiiLu x0 35) <|
   ww (qc_ x2 3) <|
   ee) (by kernel_rfl)
theorem qj0_ (n:Nat){rnd:Option Nat}(x0:List R8)(x1 x3:Nat)(st:List Int×Int)(r:List Int)(h:qcx_ n x0 x1 x3 st=some r):CG P rnd (fnN P 11) 1 (qo_ P 11 [false,true,false,true,true,true,true]) (qby_ x0 x1 x3 st) (qbz_ x0 x1 x3 r):=
 CG.iter (b:=qo_ P 11 [false,false,true,false,true,true,true,true]) (by kernel_rfl) (body:=qy_ n x0 x1 x3) (S:=qby_ x0 x1 x3) (X:=qbz_ x0 x1 x3)
  (fun s s' h=>qgw_ n x0 x1 x3 s (.inl s') h)
  (fun s r h=>qgw_ n x0 x1 x3 s (.inr r) h)
  (fun r=>by intro hx; cases hx) h
def qbo_ (n:Nat)(a0:List R8)(a1:Nat):Option (NL):=
 (qbl_ n a0 a1).bind fun c1_=>
 if c1_=0 then
  if 0≤((a1:Nat):Int) then
   if (((a1:Nat):Int)).toNat*8≤140737488355328 then
    if 0≤(0:Int)∧(0:Int)<(((((a1:Nat):Int)).toNat:Nat):Int) then
     if ((0:Int)).toNat<((List.replicate (((a1:Nat):Int)).toNat (0:Int))).length then
      (qcx_ n a0 a1 ((((a1:Nat):Int)).toNat) ((((List.replicate (((a1:Nat):Int)).toNat (0:Int))).set ((0:Int)).toNat (-1:Int)),0)).bind fun c7_=>
      if ((((a1:Nat):Int)).toNat)=c7_.length then
       if hc9:c7_.length≤140737488355328 then
        some (frzL c7_ hc9)
       else none
      else none
     else none
    else none
   else none
  else none
 else
  some nl0
theorem qkw_ (n:Nat)(a0:List R8)(a1:Nat)(r:NL)(h:qbo_ n a0 a1=some r):Gv P (.func 11) (qet_ a0 a1) (qeu_ a0 a1) (qev_ a0 a1 r) (qdi_ a0 a1 r):=by
 unfold qbo_ at h
 obtain⟨c1_,hc1,h⟩:=oB h
 have k0:=fun {A L l} (k:PL A L l)=>yy 5 (.call (qn5_ a0 a1 c1_ [(0,0,true)] [])) <|
  ww (ql4_ n a0 a1 c1_ hc1) <|
  ww (qa_ rwf_iiiiiiLu a0 35) <|
  k
 by_cases hc2:c1_=0
 ·rw[if_pos hc2] at h
  obtain⟨hc3,h⟩:=gd h
  obtain⟨hc4,h⟩:=gd h
  obtain⟨hc5,h⟩:=gd h
  obtain⟨hc6,h⟩:=gd h
  obtain⟨c7_,hc7,h⟩:=oB h
  obtain⟨hc8,h⟩:=gd h
  obtain⟨hc9,h⟩:=gdD h
  obtain rfl:=oI h
  have k0_:Gv P (.func 11) (qet_ a0 a1) (qeu_ a0 a1) (Value.slice (some ⟨Nat.add (2*cod c7_+1) 64,0,some 1⟩) ((((a1:Nat):Int)).toNat) (Nat.add big ((((a1:Nat):Int)).toNat))) (qdi_ a0 a1 (frzL c7_ hc9)):=runF2 hm ⟨[2],[],1,1,[(1,Nat.add (2*cod c7_+1) 64)],true,[],[],[]⟩ (k0 <|
  zz 6 (xnF hc2) <|
  yy 11 (.mk (((a1:Nat):Int)).toNat (iv (List.replicate (((a1:Nat):Int)).toNat (0:Int)))) <|
  ww (p:=natOf (i6 ((a1:Nat):Int))=some (((a1:Nat):Int)).toNat) (qe4_ hc3) <|
  ww (p:=natOf (i6 ((a1:Nat):Int))=some (((a1:Nat):Int)).toNat) (qe4_ hc3) <|
  ww (p:=fits (((a1:Nat):Int)).toNat 8=true) (qk3_ hc4 (by omega)) <|
  ww (p:=isZ8 [(i6 (0:Int))]=false) (rfl) <|
  ww (p:=reps [(i6 (0:Int))] (((a1:Nat):Int)).toNat=(iv (List.replicate (((a1:Nat):Int)).toNat (0:Int)))) (reps_iv _) <|
  zz 15 (xk19 1 (((a1:Nat):Int)).toNat hc5) <|
  z2 16 (stI ((-1:Int)) hc6) <|
  ww (qj0_ n (rnd:=none) a0 a1 ((((a1:Nat):Int)).toNat) ((((List.replicate (((a1:Nat):Int)).toNat (0:Int))).set ((0:Int)).toNat (-1:Int)),0) c7_ hc7) <|
  ww (qa_ rwf_iiiiiiLu a0 35) <|
  ww (qc_ (((List.replicate (((a1:Nat):Int)).toNat (0:Int))).set ((0:Int)).toNat (-1:Int)) 3) <|
  ll 21 ⟨⟨[0,3,4],[(0,0,true),(1,1,true)],2,1,[],false,[],[],[]⟩,(qbz_ a0 a1 ((((a1:Nat):Int)).toNat) c7_).1,(qbz_ a0 a1 ((((a1:Nat):Int)).toNat) c7_).2⟩ <|
  ww (frz_ok qob_ wins_odd c7_) <|
  ee) (by kernel_rfl)
  have k1_:=gvLen (fn:=fun m_=>(Value.slice (some ⟨Nat.add (2*cod c7_+1) 64,0,some 1⟩) m_ (Nat.add big m_))) hc8 k0_
  exact k1_
 ·rw[if_neg hc2] at h
  obtain rfl:=oI h
  exact runF2 hm ⟨[2],[],1,1,[],true,[],[],[2]⟩ (k0 <|
   zz 6 (xnT hc2) <|
   ee) (by kernel_rfl)

def qej_ (g1 g2:Int):List Value:=[(wlV wA),(i6 g1),(Value.int .u64 g2)]
def qhm_ (g1 g2:Int):AH:=⟨sB [],0,0⟩
def qek_ (g1 g2:Int)(r:Unit):Value:=match r with
 | _=>(bO true)
def qel_ (g1 g2:Int)(r:Unit):AH:=match r with
 | _=>⟨sB [],0,0⟩
abbrev qu3_ (g1 g2:Int)(r:Unit):Prop:=Gv P (.func 3) (qej_ g1 g2) (qhm_ g1 g2) (qek_ g1 g2 r) (qel_ g1 g2 r)
abbrev qu4_ (g1 g2:Int)(r:Unit)(ins outs:BL):CallA:=⟨0,ins,qek_ g1 g2 r,qel_ g1 g2 r,outs⟩
def qbr_ (x0:List R8)(x1:Nat)(x2:List Int)(x3:Nat)(x4:MapI Int)(st:Int):XSt:=match st with
 | x5=>(sT 85 [(7,(sN 0 0 x1 (Nat.add big 8))),(9,(sN 1 0 x3 x3)),(10,(Value.map (some 2))),(13,(i6 x5))],[],⟨sB [(0,(some (.cells (layT (rows rw_iiiiiiLu x0)) 35))),(1,(some (.cells (layT (iv x2)) 3))),(2,(some (.map (mEs mvI x4) (mLen x4))))],3,0⟩)
def qbs_ (x0:List R8)(x1:Nat)(x2:List Int)(x3:Nat)(x4:MapI Int)(r:Unit):Ex×XSt:=match r with
 | _=>(.exit 2,(sT 85 [(9,(sN 0 0 x3 x3)),(10,(Value.map (some 1)))],[],⟨sB [(0,(some (.cells (layT (iv x2)) 3))),(1,(some (.map (mEs mvI x4) (mLen x4))))],2,0⟩))
abbrev qtw_ (rnd:Option Nat)(x0:List R8)(x1:Nat)(x2:List Int)(x3:Nat)(x4:MapI Int)(st:Int)(c:Ex×XSt):Prop:=CG P rnd (fnN P 3) 0 (qo_ P 3 [false,false,true,false,true,true,true,true,true,true,true,true,true,true,true,true,true]) (qbr_ x0 x1 x2 x3 x4 st) c
def qu_ (n:Nat)(x0:List R8)(x1:Nat)(x2:List Int)(x3:Nat)(x4:MapI Int)(st:Int):Option ((Int) ⊕ (Unit)):=match st with
 | x5=>
  if x5<((x1:Nat):Int) then
   if 0≤x5∧x5<((x3:Nat):Int) then
    if (x5).toNat<(x2).length then
     ((some ((x2).getD (x5).toNat 0))).bind fun y4_=>
     if y4_=1 then
      if (mGetI x4 x5)=0 then
       none
      else
       some (.inl (w64 (x5+1)))
     else
      if (mGetI x4 x5)=0 then
       some (.inl (w64 (x5+1)))
      else
       none
    else none
   else none
  else
   some (.inr ())
def qdv_ (n:Nat)(x0:List R8)(x1:Nat)(x2:List Int)(x3:Nat)(x4:MapI Int)(st:Int):Option (Unit):=iterM (qu_ n x0 x1 x2 x3 x4) n st
theorem qga_ (n:Nat){rnd:Option Nat}(x0:List R8)(x1:Nat)(x2:List Int)(x3:Nat)(x4:MapI Int)(x5:Int)(o:(Int) ⊕ (Unit))(h:qu_ n x0 x1 x2 x3 x4 x5=some o):CG P rnd (fnN P 3) 0 (qo_ P 3 [false,false,true,false,true,true,true,true,true,true,true,true,true,true,true,true,true]) (qbr_ x0 x1 x2 x3 x4 x5) (Sum.elim (fun s=>(.normal,qbr_ x0 x1 x2 x3 x4 s)) (fun r=>qbs_ x0 x1 x2 x3 x4 r) o):=by
 unfold qu_ at h
 dsimp only at h
 by_cases hy1:x5<((x1:Nat):Int)
 ·rw[if_pos hy1] at h
  obtain⟨hy2,h⟩:=gd h
  obtain⟨hy3,h⟩:=gd h
  obtain⟨y4_,hy4,h⟩:=oB h
  have k0:=fun {A L l} (k:PL A L l)=>zz 5 (xdT hy1) <|
   zz 12 (xk19 1 x3 hy2) <|
   zz 13 (xivN hy4 hy3) <|
   k
  by_cases hy5:y4_=1
  ·rw[if_pos hy5] at h
   have k3:=fun {A L l} (k:PL A L l)=>zz 14 (xeT hy5) <|
    yy 17 (.mlk (i6 (mGetI x4 x5))) <|
    ww (p:=∀ H:AH,oc (findU (.int .i64) (i6 x5) (mEs mvI x4) 0) none (fun r=>quf_ P 3 false H r)=some ((i6 (mGetI x4 x5)),H)) (mlookI (by kernel_rfl) _ _) <|
    k
   by_cases hy6:(mGetI x4 x5)=0
   ·rw[if_pos hy6] at h
    cases h
   ·rw[if_neg hy6] at h
    obtain rfl:=oI h
    exact runC2 hm ⟨[7,9,10,13],[(0,0,true),(1,1,true),(2,2,true)],3,0,[],false,[],[],[]⟩ (k0 <|
     k3 <|
     zz 18 (xnT hy6) <|
     ww (qa_ rwf_iiiiiiLu x0 35) <|
     ww (qc_ x2 3) <|
     ww (mflat mvI (fun _=>rfl) x4 (mLen x4)) <|
     ee) (by kernel_rfl)
  ·rw[if_neg hy5] at h
   have k3:=fun {A L l} (k:PL A L l)=>zz 14 (xeF hy5) <|
    yy 17 (.mlk (i6 (mGetI x4 x5))) <|
    ww (p:=∀ H:AH,oc (findU (.int .i64) (i6 x5) (mEs mvI x4) 0) none (fun r=>quf_ P 3 false H r)=some ((i6 (mGetI x4 x5)),H)) (mlookI (by kernel_rfl) _ _) <|
    k
   by_cases hy6:(mGetI x4 x5)=0
   ·rw[if_pos hy6] at h
    obtain rfl:=oI h
    exact runC2 hm ⟨[7,9,10,13],[(0,0,true),(1,1,true),(2,2,true)],3,0,[],false,[],[],[]⟩ (k0 <|
     k3 <|
     zz 18 (xnF hy6) <|
     ww (qa_ rwf_iiiiiiLu x0 35) <|
     ww (qc_ x2 3) <|
     ww (mflat mvI (fun _=>rfl) x4 (mLen x4)) <|
     ee) (by kernel_rfl)
   ·rw[if_neg hy6] at h
    cases h
 ·rw[if_neg hy1] at h
  obtain rfl:=oI h
  exact runC2 hm ⟨[9,10],[(0,1,true),(1,2,true)],2,0,[],false,[],[],[]⟩ (zz 5 (xdF hy1) <|
   ww (qc_ x2 3) <|
   ww (mflat mvI (fun _=>rfl) x4 (mLen x4)) <|
   ee) (by kernel_rfl)
theorem qjd_ (n:Nat){rnd:Option Nat}(x0:List R8)(x1:Nat)(x2:List Int)(x3:Nat)(x4:MapI Int)(st:Int)(r:Unit)(h:qdv_ n x0 x1 x2 x3 x4 st=some r):CG P rnd (fnN P 3) 0 (qo_ P 3 [false,true,false,true,true,true,true,true,true,true,true,true,true,true,true,true]) (qbr_ x0 x1 x2 x3 x4 st) (qbs_ x0 x1 x2 x3 x4 r):=
 CG.iter (b:=qo_ P 3 [false,false,true,false,true,true,true,true,true,true,true,true,true,true,true,true,true]) (by kernel_rfl) (body:=qu_ n x0 x1 x2 x3 x4) (S:=qbr_ x0 x1 x2 x3 x4) (X:=qbs_ x0 x1 x2 x3 x4)
  (fun s s' h=>qga_ n x0 x1 x2 x3 x4 s (.inl s') h)
  (fun s r h=>qga_ n x0 x1 x2 x3 x4 s (.inr r) h)
  (fun r=>by intro hx; cases hx) h
def qbt_ (x0:List R8)(x1:Nat)(x2:List Int)(x3:Nat)(x5:NL)(st:MapI Int×Int):XSt:=match st with
 | (x4,x6)=>(sT 85 [(7,(sN 0 0 x1 (Nat.add big 8))),(9,(sN 1 0 x3 x3)),(10,(Value.map (some 2))),(11,(nlV x5)),(12,(i6 x6))],[],⟨sB [(0,(some (.cells (layT (rows rw_iiiiiiLu x0)) 35))),(1,(some (.cells (layT (iv x2)) 3))),(2,(some (.map (mEs mvI x4) (mLen x4))))],3,0⟩)
def qbu_ (x0:List R8)(x1:Nat)(x2:List Int)(x3:Nat)(x5:NL)(r:MapI Int):Ex×XSt:=match r with
 | z0=>(.exit 0,(sT 85 [(7,(sN 0 0 x1 (Nat.add big 8))),(9,(sN 1 0 x3 x3)),(10,(Value.map (some 2)))],[],⟨sB [(0,(some (.cells (layT (rows rw_iiiiiiLu x0)) 35))),(1,(some (.cells (layT (iv x2)) 3))),(2,(some (.map (mEs mvI z0) (mLen z0))))],3,0⟩))
abbrev qtx_ (rnd:Option Nat)(x0:List R8)(x1:Nat)(x2:List Int)(x3:Nat)(x5:NL)(st:MapI Int×Int)(c:Ex×XSt):Prop:=CG P rnd (fnN P 3) 0 (qo_ P 3 [false,false,true,false,true,true,true,true,true,true,true,true,true,true,true,true]) (qbt_ x0 x1 x2 x3 x5 st) c
def qn_ (n:Nat)(x0:List R8)(x1:Nat)(x2:List Int)(x3:Nat)(x5:NL)(st:MapI Int×Int):Option ((MapI Int×Int) ⊕ (MapI Int)):=match st with
 | (x4,x6)=>
  if x6 ≥ 0 then
   if 0≤x6∧x6<(((x5).l.length:Nat):Int) then
    if (x6).toNat<((x5).l).length then
     ((some (((x5).l).getD (x6).toNat 0))).bind fun y4_=>
     some (.inl ((mPut x4 x6 (1:Int)),y4_))
    else none
   else none
  else
   some (.inr x4)
def qdw_ (n:Nat)(x0:List R8)(x1:Nat)(x2:List Int)(x3:Nat)(x5:NL)(st:MapI Int×Int):Option (MapI Int):=iterM (qn_ n x0 x1 x2 x3 x5) n st
theorem qgb_ (n:Nat){rnd:Option Nat}(x0:List R8)(x1:Nat)(x2:List Int)(x3:Nat)(x5:NL)(st:MapI Int×Int)(o:(MapI Int×Int) ⊕ (MapI Int))(h:qn_ n x0 x1 x2 x3 x5 st=some o):CG P rnd (fnN P 3) 0 (qo_ P 3 [false,false,true,false,true,true,true,true,true,true,true,true,true,true,true,true]) (qbt_ x0 x1 x2 x3 x5 st) (Sum.elim (fun s=>(.normal,qbt_ x0 x1 x2 x3 x5 s)) (fun r=>qbu_ x0 x1 x2 x3 x5 r) o):=by
 obtain⟨x4,x6⟩:=st
 unfold qn_ at h
 dsimp only at h
 by_cases hy1:x6 ≥ 0
 ·rw[if_pos hy1] at h
  obtain⟨hy2,h⟩:=gd h
  obtain⟨hy3,h⟩:=gd h
  obtain⟨y4_,hy4,h⟩:=oB h
  obtain rfl:=oI h
  exact runC2 hm ⟨[7,9,10,11,12],[(0,0,true),(1,1,true),(2,2,true)],3,0,[],false,[],[],[]⟩ (zz 3 (xdT hy1) <|
   yy 9 (.mup (mEs mvI (mPut x4 x6 (1:Int))) (mLen (mPut x4 x6 (1:Int)))) <|
   ww (p:=oc (findU (.int .i64) (i6 x6) (mEs mvI x4) 0) none (fun r=>some (updEs (mEs mvI x4,mLen x4) (i6 x6) (i6 (1:Int)) r))=some (.map (mEs mvI (mPut x4 x6 (1:Int))) (mLen (mPut x4 x6 (1:Int))))) (mput_ok mvI _ _ _) <|
   zz 12 (xk9 (Nat.add (x5).num 64) (x5).off (x5).cap hy2) <|
   zz 13 (nk10 hy4 hy3) <|
   ww (qa_ rwf_iiiiiiLu x0 35) <|
   ww (qc_ x2 3) <|
   ww (mflat mvI (fun _=>rfl) (mPut x4 x6 (1:Int)) (mLen (mPut x4 x6 (1:Int)))) <|
   ee) (by kernel_rfl)
 ·rw[if_neg hy1] at h
  obtain rfl:=oI h
  exact runC2 hm ⟨[7,9,10],[(0,0,true),(1,1,true),(2,2,true)],3,0,[],false,[],[],[]⟩ (zz 3 (xdF hy1) <|
   ww (qa_ rwf_iiiiiiLu x0 35) <|
   ww (qc_ x2 3) <|
   ww (mflat mvI (fun _=>rfl) x4 (mLen x4)) <|
   ee) (by kernel_rfl)
theorem qje_ (n:Nat){rnd:Option Nat}(x0:List R8)(x1:Nat)(x2:List Int)(x3:Nat)(x5:NL)(st:MapI Int×Int)(r:MapI Int)(h:qdw_ n x0 x1 x2 x3 x5 st=some r):CG P rnd (fnN P 3) 0 (qo_ P 3 [false,true,false,true,true,true,true,true,true,true,true,true,true,true,true]) (qbt_ x0 x1 x2 x3 x5 st) (qbu_ x0 x1 x2 x3 x5 r):=
 CG.iter (b:=qo_ P 3 [false,false,true,false,true,true,true,true,true,true,true,true,true,true,true,true]) (by kernel_rfl) (body:=qn_ n x0 x1 x2 x3 x5) (S:=qbt_ x0 x1 x2 x3 x5) (X:=qbu_ x0 x1 x2 x3 x5)
  (fun s s' h=>qgb_ n x0 x1 x2 x3 x5 s (.inl s') h)
  (fun s r h=>qgb_ n x0 x1 x2 x3 x5 s (.inr r) h)
  (fun r=>by intro hx; cases hx) h
def qc7_ (n:Nat)(g1 g2:Int):Option (Unit):=
 (qg0_ n).bind fun _=>
 (qbg_ n wA 120).bind fun c2_=>
 if c2_=true then
  (q2_ n wA).bind fun c4_=>
  if c4_=0 then
   (qc9_ n wA).bind fun t=>match t with
   | (c6_0,c6_1)=>
    match c6_0 with
    | []=>
     none
    | c6_0a::c6_0t=>
     (qdg_ n (c6_0a::c6_0t) c6_1 2 (-1)).bind fun c7_=>
     (qf3_ n c7_ ((((((((c6_1:Nat):Int)).toNat):Nat):Int)).toNat) ((((((((c6_1:Nat):Int)).toNat):Nat):Int)).toNat)).bind fun t=>match t with
     | (c8_0,c8_1,c8_2,c8_3)=>
      if c8_3=(((wA).l.length:Nat):Int) then
       (qd2_ n g1 (((wA).l.length:Nat):Int)).bind fun c10_=>
       if 0≤c10_∧c10_<((c6_1:Nat):Int) then
        if (c10_).toNat<((c6_0a::c6_0t)).length then
         ((some (((c6_0a::c6_0t)).getD (c10_).toNat (0,0,0,0,0,0,nl0,0)))).bind fun c13_=>
         (qdg_ n (((c6_0a::c6_0t)).set (c10_).toNat ((c13_.1),(c13_.2.1),(c13_.2.2.1),(c13_.2.2.2.1),(c13_.2.2.2.2.1),(c13_.2.2.2.2.2.1),(c13_.2.2.2.2.2.2.1),(bOr .u64 g2 (1:Int)))) c6_1 2 (-1)).bind fun c14_=>
         if ((((((((((c6_1:Nat):Int)).toNat):Nat):Int)).toNat):Nat):Int)=((c6_1:Nat):Int) then
          (qbo_ n (((c6_0a::c6_0t)).set (c10_).toNat ((c13_.1),(c13_.2.1),(c13_.2.2.1),(c13_.2.2.2.1),(c13_.2.2.2.2.1),(c13_.2.2.2.2.2.1),(c13_.2.2.2.2.2.2.1),(bOr .u64 g2 (1:Int)))) c6_1).bind fun c16_=>
          (qdw_ n (((c6_0a::c6_0t)).set (c10_).toNat ((c13_.1),(c13_.2.1),(c13_.2.2.1),(c13_.2.2.2.1),(c13_.2.2.2.2.1),(c13_.2.2.2.2.2.1),(c13_.2.2.2.2.2.2.1),(bOr .u64 g2 (1:Int)))) c6_1 c14_ ((((((((c6_1:Nat):Int)).toNat):Nat):Int)).toNat) c16_ (mNil,c10_)).bind fun c17_=>
          (qdv_ n (((c6_0a::c6_0t)).set (c10_).toNat ((c13_.1),(c13_.2.1),(c13_.2.2.1),(c13_.2.2.2.1),(c13_.2.2.2.2.1),(c13_.2.2.2.2.2.1),(c13_.2.2.2.2.2.2.1),(bOr .u64 g2 (1:Int)))) c6_1 c14_ ((((((((c6_1:Nat):Int)).toNat):Nat):Int)).toNat) c17_ 0).bind fun _=>
          (qf3_ n c14_ ((((((((c6_1:Nat):Int)).toNat):Nat):Int)).toNat) ((((((((c6_1:Nat):Int)).toNat):Nat):Int)).toNat)).bind fun t=>match t with
          | (c19_0,c19_1,c19_2,c19_3)=>
           if c19_1=((mLen c17_:Nat):Int) then
            some ()
           else
            none
         else
          none
        else none
       else none
      else
       none
  else
   some ()
 else
  some ()
theorem qkt_ (n:Nat)(g1 g2:Int)(r:Unit)(h:qc7_ n g1 g2=some r):Gv P (.func 3) (qej_ g1 g2) (qhm_ g1 g2) (qek_ g1 g2 r) (qel_ g1 g2 r):=by
 unfold qc7_ at h
 obtain⟨_,hc1,h⟩:=oB h
 obtain⟨c2_,hc2,h⟩:=oB h
 have k0:=fun {A L l} (k:PL A L l)=>yy 4 (.call ⟨0,[],(Value.bool true),Ax.h0,[]⟩) <|
  ww (qmz_ n  () hc1) <|
  yy 10 (.call (qly_ wA 120 c2_ [] [])) <|
  ww (qkg_ n wA 120 c2_ hc2) <|
  k
 by_cases hc3:c2_=true
 ·rw[if_pos hc3] at h
  obtain⟨c4_,hc4,h⟩:=oB h
  have k4:=fun {A L l} (k:PL A L l)=>yy 11 (vf) <|
   ww (p:=(Value.bool (!c2_))=(Value.bool false)) (vBn hc3) <|
   yy 14 (.call (qiy_ wA c4_ [] [])) <|
   ww (qg9_ n wA c4_ hc4) <|
   k
  by_cases hc5:c4_=0
  ·rw[if_pos hc5] at h
   obtain⟨⟨c6_0,c6_1⟩,hc6,h⟩:=oB h
   dsimp only at h
   have k8:=fun {A L l} (k:PL A L l)=>zz 15 (xnF hc5) <|
    k
   cases c6_0 with
   | nil=>
    dsimp only at h
    cases h
   | cons c6_0a c6_0t=>
    dsimp only at h
    obtain⟨c7_,hc7,h⟩:=oB h
    obtain⟨⟨c8_0,c8_1,c8_2,c8_3⟩,hc8,h⟩:=oB h
    dsimp only at h
    have k9:=fun {A L l} (k:PL A L l)=>yy 20 (.call (qoc_ wA ((c6_0a::c6_0t),c6_1) [] [(0,0,true)])) <|
     ww (qma_ n wA ((c6_0a::c6_0t),c6_1) hc6) <|
     ww (qa_ rwf_iiiiiiLu (c6_0a::c6_0t) 35) <|
     yy 24 (.call (qp5_ (c6_0a::c6_0t) c6_1 2 (-1) c7_ [(0,0,true)] [(0,0,true),(1,1,true)])) <|
     ww (qmx_ n (c6_0a::c6_0t) c6_1 2 (-1) c7_ hc7) <|
     ww (qa_ rwf_iiiiiiLu (c6_0a::c6_0t) 35) <|
     ww (qa_ rwf_iiiiiiLu (c6_0a::c6_0t) 35) <|
     ww (qc_ c7_ 3) <|
     yy 29 (.call (qp9_ c7_ ((((((((c6_1:Nat):Int)).toNat):Nat):Int)).toNat) ((((((((c6_1:Nat):Int)).toNat):Nat):Int)).toNat) (c8_0,c8_1,c8_2,c8_3) [(0,1,true)] [(2,1,false)])) <|
     ww (qmy_ n c7_ ((((((((c6_1:Nat):Int)).toNat):Nat):Int)).toNat) ((((((((c6_1:Nat):Int)).toNat):Nat):Int)).toNat) (c8_0,c8_1,c8_2,c8_3) hc8) <|
     ww (qc_ c7_ 3) <|
     k
    by_cases hc9:c8_3=(((wA).l.length:Nat):Int)
    ·rw[if_pos hc9] at h
     obtain⟨c10_,hc10,h⟩:=oB h
     obtain⟨hc11,h⟩:=gd h
     obtain⟨hc12,h⟩:=gd h
     obtain⟨c13_,hc13,h⟩:=oB h
     obtain⟨c14_,hc14,h⟩:=oB h
     have k20:=fun {A L l} (k:PL A L l)=>zz 33 (xnF hc9) <|
      yy 39 (.call (qqb_ g1 (((wA).l.length:Nat):Int) c10_ [] [])) <|
      ww (qn4_ n g1 (((wA).l.length:Nat):Int) c10_ hc10) <|
      zz 46 (xk13 0 U8 hc11) <|
      z2 48 (ste (k:=1) (qv7_ rwf_iiiiiiLu (0,0,0,0,0,0,nl0,0) (hr:=hc13) (i:=(c10_).toNat) (j:=7) (l:=[(Value.int .u64 (bOr .u64 g2 (1:Int)))]) ((c13_.1),(c13_.2.1),(c13_.2.2.1),(c13_.2.2.2.1),(c13_.2.2.2.2.1),(c13_.2.2.2.2.2.1),(c13_.2.2.2.2.2.2.1),(bOr .u64 g2 (1:Int))) (Nat.add ((c10_).toNat*8) 7) rfl (hc12) (Nat.le_of_ble_eq_true rfl) rfl)) <|
      yy 51 (.call (qp5_ (((c6_0a::c6_0t)).set (c10_).toNat ((c13_.1),(c13_.2.1),(c13_.2.2.1),(c13_.2.2.2.1),(c13_.2.2.2.2.1),(c13_.2.2.2.2.2.1),(c13_.2.2.2.2.2.2.1),(bOr .u64 g2 (1:Int)))) c6_1 2 (-1) c14_ [(0,0,true)] [(0,0,true),(3,1,true)])) <|
      ww (qmx_ n (((c6_0a::c6_0t)).set (c10_).toNat ((c13_.1),(c13_.2.1),(c13_.2.2.1),(c13_.2.2.2.1),(c13_.2.2.2.2.1),(c13_.2.2.2.2.2.1),(c13_.2.2.2.2.2.2.1),(bOr .u64 g2 (1:Int)))) c6_1 2 (-1) c14_ hc14) <|
      ww (qa_ rwf_iiiiiiLu (((c6_0a::c6_0t)).set (c10_).toNat ((c13_.1),(c13_.2.1),(c13_.2.2.1),(c13_.2.2.2.1),(c13_.2.2.2.2.1),(c13_.2.2.2.2.2.1),(c13_.2.2.2.2.2.2.1),(bOr .u64 g2 (1:Int)))) 35) <|
      ww (qa_ rwf_iiiiiiLu (((c6_0a::c6_0t)).set (c10_).toNat ((c13_.1),(c13_.2.1),(c13_.2.2.1),(c13_.2.2.2.1),(c13_.2.2.2.2.1),(c13_.2.2.2.2.2.1),(c13_.2.2.2.2.2.2.1),(bOr .u64 g2 (1:Int)))) 35) <|
      ww (qc_ c14_ 3) <|
      k
     by_cases hc15:((((((((((c6_1:Nat):Int)).toNat):Nat):Int)).toNat):Nat):Int)=((c6_1:Nat):Int)
     ·rw[if_pos hc15] at h
      obtain⟨c16_,hc16,h⟩:=oB h
      obtain⟨c17_,hc17,h⟩:=oB h
      obtain⟨_,hc18,h⟩:=oB h
      obtain⟨⟨c19_0,c19_1,c19_2,c19_3⟩,hc19,h⟩:=oB h
      dsimp only at h
      have k30:=fun {A L l} (k:PL A L l)=>zz 59 (xnF hc15) <|
       yy 66 (.call (qmt_ (((c6_0a::c6_0t)).set (c10_).toNat ((c13_.1),(c13_.2.1),(c13_.2.2.1),(c13_.2.2.2.1),(c13_.2.2.2.2.1),(c13_.2.2.2.2.2.1),(c13_.2.2.2.2.2.2.1),(bOr .u64 g2 (1:Int)))) c6_1 c16_ [(0,0,true)] [])) <|
       ww (qkw_ n (((c6_0a::c6_0t)).set (c10_).toNat ((c13_.1),(c13_.2.1),(c13_.2.2.1),(c13_.2.2.2.1),(c13_.2.2.2.2.1),(c13_.2.2.2.2.2.1),(c13_.2.2.2.2.2.2.1),(bOr .u64 g2 (1:Int)))) c6_1 c16_ hc16) <|
       ww (qa_ rwf_iiiiiiLu (((c6_0a::c6_0t)).set (c10_).toNat ((c13_.1),(c13_.2.1),(c13_.2.2.1),(c13_.2.2.2.1),(c13_.2.2.2.2.1),(c13_.2.2.2.2.2.1),(c13_.2.2.2.2.2.2.1),(bOr .u64 g2 (1:Int)))) 35) <|
       ww (qje_ n (rnd:=none) (((c6_0a::c6_0t)).set (c10_).toNat ((c13_.1),(c13_.2.1),(c13_.2.2.1),(c13_.2.2.2.1),(c13_.2.2.2.2.1),(c13_.2.2.2.2.2.1),(c13_.2.2.2.2.2.2.1),(bOr .u64 g2 (1:Int)))) c6_1 c14_ ((((((((c6_1:Nat):Int)).toNat):Nat):Int)).toNat) c16_ (mNil,c10_) c17_ hc17) <|
       ww (qa_ rwf_iiiiiiLu (((c6_0a::c6_0t)).set (c10_).toNat ((c13_.1),(c13_.2.1),(c13_.2.2.1),(c13_.2.2.2.1),(c13_.2.2.2.2.1),(c13_.2.2.2.2.2.1),(c13_.2.2.2.2.2.2.1),(bOr .u64 g2 (1:Int)))) 35) <|
       ww (qc_ c14_ 3) <|
       ww (mflat mvI (fun _=>rfl) (mNil:MapI Int) (mLen (mNil:MapI Int))) <|
       ll 73 ⟨⟨[7,9,10,11,12],[(0,0,true),(1,3,true),(2,4,true)],3,0,[],false,[],[],[]⟩,(qbu_ (((c6_0a::c6_0t)).set (c10_).toNat ((c13_.1),(c13_.2.1),(c13_.2.2.1),(c13_.2.2.2.1),(c13_.2.2.2.2.1),(c13_.2.2.2.2.2.1),(c13_.2.2.2.2.2.2.1),(bOr .u64 g2 (1:Int)))) c6_1 c14_ ((((((((c6_1:Nat):Int)).toNat):Nat):Int)).toNat) c16_ c17_).1,(qbu_ (((c6_0a::c6_0t)).set (c10_).toNat ((c13_.1),(c13_.2.1),(c13_.2.2.1),(c13_.2.2.2.1),(c13_.2.2.2.2.1),(c13_.2.2.2.2.2.1),(c13_.2.2.2.2.2.2.1),(bOr .u64 g2 (1:Int)))) c6_1 c14_ ((((((((c6_1:Nat):Int)).toNat):Nat):Int)).toNat) c16_ c17_).2⟩ <|
       ww (qjd_ n (rnd:=none) (((c6_0a::c6_0t)).set (c10_).toNat ((c13_.1),(c13_.2.1),(c13_.2.2.1),(c13_.2.2.2.1),(c13_.2.2.2.2.1),(c13_.2.2.2.2.2.1),(c13_.2.2.2.2.2.2.1),(bOr .u64 g2 (1:Int)))) c6_1 c14_ ((((((((c6_1:Nat):Int)).toNat):Nat):Int)).toNat) c17_ 0 () hc18) <|
       ww (qa_ rwf_iiiiiiLu (((c6_0a::c6_0t)).set (c10_).toNat ((c13_.1),(c13_.2.1),(c13_.2.2.1),(c13_.2.2.2.1),(c13_.2.2.2.2.1),(c13_.2.2.2.2.2.1),(c13_.2.2.2.2.2.2.1),(bOr .u64 g2 (1:Int)))) 35) <|
       ww (qc_ c14_ 3) <|
       ww (mflat mvI (fun _=>rfl) c17_ (mLen c17_)) <|
       ll 78 ⟨⟨[7,9,10,13],[(0,0,true),(1,1,true),(2,2,true)],3,0,[],false,[],[],[]⟩,(qbs_ (((c6_0a::c6_0t)).set (c10_).toNat ((c13_.1),(c13_.2.1),(c13_.2.2.1),(c13_.2.2.2.1),(c13_.2.2.2.2.1),(c13_.2.2.2.2.2.1),(c13_.2.2.2.2.2.2.1),(bOr .u64 g2 (1:Int)))) c6_1 c14_ ((((((((c6_1:Nat):Int)).toNat):Nat):Int)).toNat) c17_ ()).1,(qbs_ (((c6_0a::c6_0t)).set (c10_).toNat ((c13_.1),(c13_.2.1),(c13_.2.2.1),(c13_.2.2.2.1),(c13_.2.2.2.2.1),(c13_.2.2.2.2.2.1),(c13_.2.2.2.2.2.2.1),(bOr .u64 g2 (1:Int)))) c6_1 c14_ ((((((((c6_1:Nat):Int)).toNat):Nat):Int)).toNat) c17_ ()).2⟩ <|
       yy 81 (.call (qp9_ c14_ ((((((((c6_1:Nat):Int)).toNat):Nat):Int)).toNat) ((((((((c6_1:Nat):Int)).toNat):Nat):Int)).toNat) (c19_0,c19_1,c19_2,c19_3) [(0,0,true)] [(2,1,false)])) <|
       ww (qmy_ n c14_ ((((((((c6_1:Nat):Int)).toNat):Nat):Int)).toNat) ((((((((c6_1:Nat):Int)).toNat):Nat):Int)).toNat) (c19_0,c19_1,c19_2,c19_3) hc19) <|
       ww (qc_ c14_ 3) <|
       yy 84 (.val (i6 ((mLen c17_:Nat):Int))) <|
       ww (p:=(Value.int .i64 (.ofNat (mEs mvI c17_).length))=((i6 ((mLen c17_:Nat):Int)))) (mLen_ok mvI c17_) <|
       k
      by_cases hc20:c19_1=((mLen c17_:Nat):Int)
      ·rw[if_pos hc20] at h
       obtain rfl:=oI h
       exact runF2 hm ⟨[6],[],0,0,[],false,[],[],[]⟩ (k0 <|
        k4 <|
        k8 <|
        k9 <|
        k20 <|
        k30 <|
        zz 85 (xeT hc20) <|
        ee) (by kernel_rfl)
      ·rw[if_neg hc20] at h
       cases h
     ·rw[if_neg hc15] at h
      cases h
    ·rw[if_neg hc9] at h
     cases h
  ·rw[if_neg hc5] at h
   obtain rfl:=oI h
   exact runF2 hm ⟨[6],[],0,0,[],false,[],[],[]⟩ (k0 <|
    k4 <|
    zz 15 (xnT hc5) <|
    ee) (by kernel_rfl)
 ·rw[if_neg hc3] at h
  obtain rfl:=oI h
  exact runF2 hm ⟨[6],[],0,0,[],false,[],[],[]⟩ (k0 <|
   yy 11 (vt) <|
   ww (p:=(Value.bool (!c2_))=(Value.bool true)) (vBn (Bool.eq_false_iff.2 hc3)) <|
   ee) (by kernel_rfl)

end Go.Proofs.YtleifgniphogeaaGreatDoor.mwh19
