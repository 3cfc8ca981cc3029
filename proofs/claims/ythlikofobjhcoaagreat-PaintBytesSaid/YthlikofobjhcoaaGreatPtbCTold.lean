/-
  What functions do, told by pure functions. No condition.
-/
import Derived.Test.YthlikofobjhcoaaGreatPtbBTold
set_option linter.unusedSimpArgs false
set_option linter.unusedVariables false
set_option linter.unusedSectionVars false
set_option linter.unnecessarySimpa false
set_option maxRecDepth 100000
noncomputable section
namespace Go.Proofs.YthlikofobjhcoaaGreat.ptb28
open Go Go.Proofs.YthlikofobjhcoaaGreat Ax
variable [Args]
def qj8_ (a0:WL rw_iLii)(a1 a2 a3:Int)(a4:Bool)(a5:Int)(a6:List Int)(a7:Nat)(r:Int×List (NL)×Int×Int×Bool):Value:=match r with
 | (o0,o1,o2,o3,o4)=>(Value.agg #[(i6 o0),(nlQ o1),(i6 o2),(i6 o3),(bO o4)])
def qj9_ (a0:WL rw_iLii)(a1 a2 a3:Int)(a4:Bool)(a5:Int)(a6:List Int)(a7:Nat)(r:Int×List (NL)×Int×Int×Bool):AH:=match r with
 | (o0,o1,o2,o3,o4)=>⟨sB [(0,(cB [(wlV a0)] 23)),(1,(cB [(i6 a5)] 3)),(2,(cB [(sN 3 0 a7 (Nat.add big 1))] 28)),(3,(cB (iv a6) 3)),(4,(some (.marks false))),(5,(cB [(i6 o0),(nlQ o1),(i6 o2),(i6 o3),(bO o4)] 187))],6,0⟩
abbrev qrb_ (a0:WL rw_iLii)(a1 a2 a3:Int)(a4:Bool)(a5:Int)(a6:List Int)(a7:Nat)(r:Int×List (NL)×Int×Int×Bool):Prop:=Gv P (.func 103) [(Value.func (.func 120) #[] #[(pN 0 0)]),(Value.agg #[(i6 a1),(Value.slice none 0 0),(i6 a2),(i6 a3),(bO a4)]),(Value.func (.func 105) #[] #[(pN 1 0),(pN 2 0)])] ⟨sB [(0,(cB [(wlV a0)] 23)),(1,(cB [(i6 a5)] 3)),(2,(cB [(sN 3 0 a7 (Nat.add big 1))] 28)),(3,(cB (iv a6) 3))],4,4⟩ (qj8_ a0 a1 a2 a3 a4 a5 a6 a7 r) (qj9_ a0 a1 a2 a3 a4 a5 a6 a7 r)
abbrev qka_ (a0:WL rw_iLii)(a1 a2 a3:Int)(a4:Bool)(a5:Int)(a6:List Int)(a7:Nat)(r:Int×List (NL)×Int×Int×Bool)(ins outs:BL):CallA:=⟨4,ins,qj8_ a0 a1 a2 a3 a4 a5 a6 a7 r,qj9_ a0 a1 a2 a3 a4 a5 a6 a7 r,outs⟩
def qey_ (n:Nat)(a0:WL rw_iLii)(a1 a2 a3:Int)(a4:Bool)(a5:Int)(a6:List Int)(a7:Nat):Option (Int×List (NL)×Int×Int×Bool):=
 (qec_ n a1 a2 a3 a4 a5 a6 a7 0 0 0 false a0).bind fun t=>match t with
 | (c1_0,c1_1,c1_2,c1_3,c1_4)=>
  match c1_1 with
  | []=>
   some (c1_0,([]:List (NL)),c1_2,c1_3,c1_4)
  | c1_1a::c1_1t=>
   some (c1_0,[c1_1a],c1_2,c1_3,c1_4)
theorem qht_ (n:Nat)(a0:WL rw_iLii)(a1 a2 a3:Int)(a4:Bool)(a5:Int)(a6:List Int)(a7:Nat)(r:Int×List (NL)×Int×Int×Bool)(h:qey_ n a0 a1 a2 a3 a4 a5 a6 a7=some r):qrb_ a0 a1 a2 a3 a4 a5 a6 a7 r:=by
 unfold qey_ at h
 obtain⟨⟨c1_0,c1_1,c1_2,c1_3,c1_4⟩,hc1,h⟩:=oB h
 dsimp only at h
 cases c1_1 with
 | nil=>
  dsimp only at h
  obtain rfl:=oI h
  exact runF2 hm (kW [6] [(0,0,false),(1,1,false),(2,2,false),(3,3,true),(4,7,false),(5,6,false)] 6 0) (yy 8 (.rng (qjg_ a1 a2 a3 a4 a5 a6 a7 0 0 0 false a0 (c1_0,([]:List (NL)),c1_2,c1_3,c1_4) [(0,8,false),(1,7,false),(2,4,false),(3,5,false),(4,1,false),(5,2,false),(6,3,true),(7,6,false),(8,0,false)] [(8,0,false),(7,1,false),(4,2,false),(5,3,false),(1,4,false),(2,5,false),(3,6,true),(6,7,false),(0,8,false)]) [4,5,6,8]) <|
   ww (qhc_ n a1 a2 a3 a4 a5 a6 a7 0 0 0 false a0 (c1_0,([]:List (NL)),c1_2,c1_3,c1_4) hc1) <|
   ww (qd_ a6 3) <|
   ww (qd_ a6 3) <|
   ww (qd_ a6 3) <|
   ee) (by kernel_rfl)
 | cons c1_1a c1_1t=>
  dsimp only at h
  obtain rfl:=oI h
  exact runF2 hm (kW [6] [(0,0,false),(1,1,false),(2,2,false),(3,3,true),(4,7,false),(5,6,false)] 6 0) (yy 8 (.rng (qjg_ a1 a2 a3 a4 a5 a6 a7 0 0 0 false a0 (c1_0,(c1_1a::c1_1t),c1_2,c1_3,c1_4) [(0,8,false),(1,7,false),(2,4,false),(3,5,false),(4,1,false),(5,2,false),(6,3,true),(7,6,false),(8,0,false)] [(8,0,false),(7,1,false),(4,2,false),(5,3,false),(1,4,false),(2,5,false),(3,6,true),(6,7,false),(0,8,false)]) [4,5,6,8]) <|
   ww (qhc_ n a1 a2 a3 a4 a5 a6 a7 0 0 0 false a0 (c1_0,(c1_1a::c1_1t),c1_2,c1_3,c1_4) hc1) <|
   ww (qd_ a6 3) <|
   ww (qd_ a6 3) <|
   ww (qd_ a6 3) <|
   ee) (by kernel_rfl)

def quv_ (a0:WL rw_iLii)(a1:Int)(a2:List Int)(a3:Nat)(r:Int):Value:=match r with
 | o0=>(i6 o0)
def quw_ (a0:WL rw_iLii)(a1:Int)(a2:List Int)(a3:Nat)(r:Int):AH:=match r with
 | o0=>⟨sB [(0,(cB (iv a2) 3))],1,0⟩
abbrev q0b_ (a0:WL rw_iLii)(a1:Int)(a2:List Int)(a3:Nat)(r:Int):Prop:=Gv P (.func 75) [(wlV a0),(i6 a1),(sN 0 0 a3 (Nat.add big 1))] ⟨sB [(0,(cB (iv a2) 3))],1,1⟩ (quv_ a0 a1 a2 a3 r) (quw_ a0 a1 a2 a3 r)
abbrev qux_ (a0:WL rw_iLii)(a1:Int)(a2:List Int)(a3:Nat)(r:Int)(ins outs:BL):CallA:=⟨1,ins,quv_ a0 a1 a2 a3 r,quw_ a0 a1 a2 a3 r,outs⟩
def qfo_ (n:Nat)(a0:WL rw_iLii)(a1:Int)(a2:List Int)(a3:Nat):Option (Int):=
 (qce_ n a0).bind fun _=>
 (qey_ n a0 0 0 0 false a1 a2 a3).bind fun t=>match t with
 | (c2_0,c2_1,c2_2,c2_3,c2_4)=>
  match c2_1 with
  | []=>
   some c2_2
  | c2_1a::c2_1t=>
   some c2_2
theorem qp8_ (n:Nat)(a0:WL rw_iLii)(a1:Int)(a2:List Int)(a3:Nat)(r:Int)(h:qfo_ n a0 a1 a2 a3=some r):q0b_ a0 a1 a2 a3 r:=by
 unfold qfo_ at h
 obtain⟨_,hc1,h⟩:=oB h
 obtain⟨⟨c2_0,c2_1,c2_2,c2_3,c2_4⟩,hc2,h⟩:=oB h
 dsimp only at h
 have k0:=fun {A L l} (k:PL A L l)=>yy 6 (.call (qj4_ a0 () [] [(3,0,false)])) <|
  ww (qhp_ n a0 () hc1) <|
  k
 cases c2_1 with
 | nil=>
  dsimp only at h
  obtain rfl:=oI h
  exact runF2 hm (kW [6] [(0,0,true)] 1 0) (k0 <|
   yy 9 (.call (qka_ a0 0 0 0 false a1 a2 a3 (c2_0,([]:List (NL)),c2_2,c2_3,c2_4) [(0,3,false),(1,1,false),(2,2,false),(3,0,true)] [(3,0,false),(1,1,false),(2,2,false),(0,3,true),(5,5,false)])) <|
   ww (qht_ n a0 0 0 0 false a1 a2 a3 (c2_0,([]:List (NL)),c2_2,c2_3,c2_4) hc2) <|
   ww (qd_ a2 3) <|
   ww (qd_ a2 3) <|
   ww (qd_ a2 3) <|
   ee) (by kernel_rfl)
 | cons c2_1a c2_1t=>
  dsimp only at h
  obtain rfl:=oI h
  exact runF2 hm (kW [6] [(0,0,true)] 1 0) (k0 <|
   yy 9 (.call (qka_ a0 0 0 0 false a1 a2 a3 (c2_0,(c2_1a::c2_1t),c2_2,c2_3,c2_4) [(0,3,false),(1,1,false),(2,2,false),(3,0,true)] [(3,0,false),(1,1,false),(2,2,false),(0,3,true),(5,5,false)])) <|
   ww (qht_ n a0 0 0 0 false a1 a2 a3 (c2_0,(c2_1a::c2_1t),c2_2,c2_3,c2_4) hc2) <|
   ww (qd_ a2 3) <|
   ww (qd_ a2 3) <|
   ww (qd_ a2 3) <|
   ee) (by kernel_rfl)

def qnx_ (a0:W8)(a1:NL)(a2:WL rw_iLii)(a3:NL)(a4 a5 a6 r:Int):Value:=match r with
 | o0=>(i6 o0)
def qny_ (a0:W8)(a1:NL)(a2:WL rw_iLii)(a3:NL)(a4 a5 a6 r:Int):AH:=match r with
 | o0=>⟨sB [],1,1⟩
abbrev qvd_ (a0:W8)(a1:NL)(a2:WL rw_iLii)(a3:NL)(a4 a5 a6 r:Int):Prop:=Gv P (.func 48) [(pN 0 0),(i6 a6)] ⟨sB [(0,(cB [(wlV a0),(nlV a1),(wlV a2),(nlV a3),(i6 a4),(i6 a5)] 66))],1,1⟩ (qnx_ a0 a1 a2 a3 a4 a5 a6 r) (qny_ a0 a1 a2 a3 a4 a5 a6 r)
abbrev qga_ (a0:W8)(a1:NL)(a2:WL rw_iLii)(a3:NL)(a4 a5 a6 r:Int)(ins outs:BL):CallA:=⟨1,ins,qnx_ a0 a1 a2 a3 a4 a5 a6 r,qny_ a0 a1 a2 a3 a4 a5 a6 r,outs⟩
def qfj_ (x0:W8)(x1:NL)(x2:WL rw_iLii)(x3:NL)(x4 x5 x6 x7 x8 x9 x10 x11:Int)(x12:NL)(x13 x14:Int)(st:List Int×Int):XSt:=match st with
 | (x15,x16)=>(sT 102 [(0,(pN 0 0)),(5,(pN 1 0)),(6,(i6 x14)),(9,(slN x15 2)),(10,(i6 x16))],[],⟨sB [(0,(cB [(wlV x0),(nlV x1),(wlV x2),(nlV x3),(i6 x4),(i6 x5)] 66)),(1,(cB [(i6 x6),(i6 x7),(i6 x8),(i6 x9),(i6 x10),(i6 x11),(nlV x12),(Value.int .u64 x13)] 31)),(2,(nblk x15 3))],3,1⟩)
def qz_ (x0:W8)(x1:NL)(x2:WL rw_iLii)(x3:NL)(x4 x5 x6 x7 x8 x9 x10 x11:Int)(x12:NL)(x13 x14:Int)(r:List Int):Ex×XSt:=match r with
 | z0=>(.exit 2,(sT 102 [(0,(pN 0 0)),(5,(pN 1 0)),(9,(slN z0 2))],[],⟨sB [(0,(cB [(wlV x0),(nlV x1),(wlV x2),(nlV x3),(i6 x4),(i6 x5)] 66)),(1,(cB [(i6 x6),(i6 x7),(i6 x8),(i6 x9),(i6 x10),(i6 x11),(nlV x12),(Value.int .u64 x13)] 31)),(2,(nblk z0 3))],3,1⟩))
abbrev qte_ (rnd:Option Nat)(x0:W8)(x1:NL)(x2:WL rw_iLii)(x3:NL)(x4 x5 x6 x7 x8 x9 x10 x11:Int)(x12:NL)(x13 x14:Int)(st:List Int×Int)(c:Ex×XSt):Prop:=CG P rnd (fnN P 48) 1 (qx_ P 48 [false,false,true,false,true,true,true,true,true,true]) (qfj_ x0 x1 x2 x3 x4 x5 x6 x7 x8 x9 x10 x11 x12 x13 x14 st) c
abbrev qtf_ (rd:Option Nat)(x0:W8)(x1:NL)(x2:WL rw_iLii)(x3:NL)(x4 x5 x6 x7 x8 x9 x10 x11:Int)(x12:NL)(x13 x14:Int)(st:List Int×Int)(r:List Int):Prop:=CG P rd (fnN P 48) 1 (qx_ P 48 [false,true,false,true,true,true,true,true,true]) (qfj_ x0 x1 x2 x3 x4 x5 x6 x7 x8 x9 x10 x11 x12 x13 x14 st) (qz_ x0 x1 x2 x3 x4 x5 x6 x7 x8 x9 x10 x11 x12 x13 x14 r)
def qs_ (n:Nat)(x0:W8)(x1:NL)(x2:WL rw_iLii)(x3:NL)(x4 x5 x6 x7 x8 x9 x10 x11:Int)(x12:NL)(x13 x14:Int)(st:List Int×Int):Option ((List Int×Int) ⊕ (List Int)):=match st with
 | (x15,x16)=>
  match x15 with
  | []=>
   if x16 ≥ 0 then
    if (0:Int)<x14 then
     if 0≤x16∧x16<(((x0).l.length:Nat):Int) then
      ((some (((x0).l).getD (x16).toNat (0,0,0,0,0,0,nl0,0)))).bind fun y4_=>
      if 0≤x16∧x16<(((x3).l.length:Nat):Int) then
       if (x16).toNat<((x3).l).length then
        ((some (((x3).l).getD (x16).toNat 0))).bind fun y7_=>
        some (.inl ([(y4_.1)],y7_))
       else none
      else none
     else none
    else
     some (.inr ([]:List Int))
   else
    some (.inr ([]:List Int))
  | x15a::x15t=>
   if x16 ≥ 0 then
    if ((((x15a::x15t)).length:Nat):Int)<x14 then
     if 0≤x16∧x16<(((x0).l.length:Nat):Int) then
      ((some (((x0).l).getD (x16).toNat (0,0,0,0,0,0,nl0,0)))).bind fun y4_=>
      if (((x15a::x15t)).length+1)*8≤140737488355328 then
       if 0≤x16∧x16<(((x3).l.length:Nat):Int) then
        if (x16).toNat<((x3).l).length then
         ((some (((x3).l).getD (x16).toNat 0))).bind fun y8_=>
         some (.inl (((x15a::x15t) ++ [(y4_.1)]),y8_))
        else none
       else none
      else none
     else none
    else
     some (.inr (x15a::x15t))
   else
    some (.inr (x15a::x15t))
def qd5_ (n:Nat)(x0:W8)(x1:NL)(x2:WL rw_iLii)(x3:NL)(x4 x5 x6 x7 x8 x9 x10 x11:Int)(x12:NL)(x13 x14:Int)(st:List Int×Int):Option (List Int):=iterM (qs_ n x0 x1 x2 x3 x4 x5 x6 x7 x8 x9 x10 x11 x12 x13 x14) n st
theorem ql0_ (n:Nat){rnd:Option Nat}(x0:W8)(x1:NL)(x2:WL rw_iLii)(x3:NL)(x4 x5 x6 x7 x8 x9 x10 x11:Int)(x12:NL)(x13 x14:Int)(st:List Int×Int)(o:(List Int×Int) ⊕ (List Int))(h:qs_ n x0 x1 x2 x3 x4 x5 x6 x7 x8 x9 x10 x11 x12 x13 x14 st=some o):qte_ rnd x0 x1 x2 x3 x4 x5 x6 x7 x8 x9 x10 x11 x12 x13 x14 st (Sum.elim (fun s=>(.normal,qfj_ x0 x1 x2 x3 x4 x5 x6 x7 x8 x9 x10 x11 x12 x13 x14 s)) (fun r=>qz_ x0 x1 x2 x3 x4 x5 x6 x7 x8 x9 x10 x11 x12 x13 x14 r) o):=by
 obtain⟨x15,x16⟩:=st
 unfold qs_ at h
 dsimp only at h
 cases x15 with
 | nil=>
  dsimp only at h
  by_cases hy1:x16 ≥ 0
  ·rw[if_pos hy1] at h
   have k0:=fun {A L l} (k:PL A L l)=>zz 3 (xdT hy1) <|
    k
   by_cases hy2:(0:Int)<x14
   ·rw[if_pos hy2] at h
    obtain⟨hy3,h⟩:=gd h
    obtain⟨y4_,hy4,h⟩:=oB h
    obtain⟨hy5,h⟩:=gd h
    obtain⟨hy6,h⟩:=gd h
    obtain⟨y7_,hy7,h⟩:=oB h
    obtain rfl:=oI h
    exact runC2 hm (kW [0,5,6,9,10] [(0,0,false),(1,1,false),(2,4,false)] 3 1) (k0 <|
     zz 8 (xdT hy2) <|
     zz 19 (xk1 (x0).num (x0).off (x0).cap hy3) <|
     zz 20 (fk28 (x0).num (Nat.add (x0).off ((x16).toNat*8))) <|
     zz 21 (lk29 hy4 (qw_ hy3)) <|
     zz 30 (xk12 (Nat.add (x3).num 64) (x3).off (x3).cap hy5) <|
     zz 31 (nk13 hy7 hy6) <|
     ee) (by kernel_rfl)
   ·rw[if_neg hy2] at h
    obtain rfl:=oI h
    exact runC2 hm (kW [0,5,9] (iD 2) 3 1) (k0 <|
     zz 8 (xdF hy2) <|
     ee) (by kernel_rfl)
  ·rw[if_neg hy1] at h
   obtain rfl:=oI h
   exact runC2 hm (kW [0,5,9] (iD 2) 3 1) (zz 3 (xdF hy1) <|
    ee) (by kernel_rfl)
 | cons x15a x15t=>
  dsimp only at h
  by_cases hy1:x16 ≥ 0
  ·rw[if_pos hy1] at h
   have k0:=fun {A L l} (k:PL A L l)=>zz 3 (xdT hy1) <|
    k
   by_cases hy2:((((x15a::x15t)).length:Nat):Int)<x14
   ·rw[if_pos hy2] at h
    obtain⟨hy3,h⟩:=gd h
    obtain⟨y4_,hy4,h⟩:=oB h
    obtain⟨hy5,h⟩:=gd h
    obtain⟨hy6,h⟩:=gd h
    obtain⟨hy7,h⟩:=gd h
    obtain⟨y8_,hy8,h⟩:=oB h
    obtain rfl:=oI h
    exact runC2 hm (kW [0,5,6,9,10] [(0,0,false),(1,1,false),(2,4,true)] 3 1) (k0 <|
     zz 8 (xdT hy2) <|
     zz 19 (xk1 (x0).num (x0).off (x0).cap hy3) <|
     zz 20 (fk28 (x0).num (Nat.add (x0).off ((x16).toNat*8))) <|
     zz 21 (lk29 hy4 (qw_ hy3)) <|
     yy 23 (.app ⟨none,iv (x15a::x15t),(iv ((x15a::x15t) ++ [(y4_.1)])),(((x15a::x15t) ++ [(y4_.1)])).length,false⟩) <|
     ww (p:=0<1) ((by decide)) <|
     ww (p:=rdT (layT (iv (x15a::x15t))) (Nat.mul ((x15a::x15t)).length 1) 0=some (iv (x15a::x15t))) (iv_rd _) <|
     ww (p:=fits (Nat.add ((x15a::x15t)).length 1) 8=true) (ql8_ hy5 (by have:=hy5; show (_:Nat)+_≤_; omega)) <|
     ww (p:=qbn_ [(i6 (y4_.1))]=true) (rfl) <|
     ww (p:=qbn_ (iv (x15a::x15t))=true) (iv_cells _) <|
     ww (p:=iv (x15a::x15t) ++ [(i6 (y4_.1))]=(iv ((x15a::x15t) ++ [(y4_.1)]))) (by simp[iv]) <|
     ww (p:=Nat.add ((x15a::x15t)).length 1=(((x15a::x15t) ++ [(y4_.1)])).length) (by simp) <|
     zz 30 (xk12 (Nat.add (x3).num 64) (x3).off (x3).cap hy6) <|
     zz 31 (nk13 hy8 hy7) <|
     ww (qd_ ((x15a::x15t) ++ [(y4_.1)]) 3) <|
     ee) (by kernel_rfl)
   ·rw[if_neg hy2] at h
    obtain rfl:=oI h
    exact runC2 hm (kW [0,5,9] [(0,0,false),(1,1,false),(2,2,true)] 3 1) (k0 <|
     zz 8 (xdF hy2) <|
     ww (qd_ (x15a::x15t) 3) <|
     ee) (by kernel_rfl)
  ·rw[if_neg hy1] at h
   obtain rfl:=oI h
   exact runC2 hm (kW [0,5,9] [(0,0,false),(1,1,false),(2,2,true)] 3 1) (zz 3 (xdF hy1) <|
    ww (qd_ (x15a::x15t) 3) <|
    ee) (by kernel_rfl)
theorem qed_ (n:Nat){rnd:Option Nat}(x0:W8)(x1:NL)(x2:WL rw_iLii)(x3:NL)(x4 x5 x6 x7 x8 x9 x10 x11:Int)(x12:NL)(x13 x14:Int)(st:List Int×Int)(r:List Int)(h:qd5_ n x0 x1 x2 x3 x4 x5 x6 x7 x8 x9 x10 x11 x12 x13 x14 st=some r):qtf_ rnd x0 x1 x2 x3 x4 x5 x6 x7 x8 x9 x10 x11 x12 x13 x14 st r:=
 CG.iter (b:=qx_ P 48 [false,false,true,false,true,true,true,true,true,true]) (by kernel_rfl) (body:=qs_ n x0 x1 x2 x3 x4 x5 x6 x7 x8 x9 x10 x11 x12 x13 x14) (S:=qfj_ x0 x1 x2 x3 x4 x5 x6 x7 x8 x9 x10 x11 x12 x13 x14) (X:=qz_ x0 x1 x2 x3 x4 x5 x6 x7 x8 x9 x10 x11 x12 x13 x14)
  (fun s s' h=>ql0_ n x0 x1 x2 x3 x4 x5 x6 x7 x8 x9 x10 x11 x12 x13 x14 s (.inl s') h)
  (fun s r h=>ql0_ n x0 x1 x2 x3 x4 x5 x6 x7 x8 x9 x10 x11 x12 x13 x14 s (.inr r) h)
  (fun r=>by intro hx; cases hx) h
def qfk_ (x0:W8)(x1:NL)(x2:WL rw_iLii)(x3:NL)(x4 x5 x6 x7 x8 x9 x10 x11 x12:Int)(x13:NL)(x14 x16:Int)(st:Int×Int):XSt:=match st with
 | (x15,x17)=>(sT 102 [(0,(pN 0 0)),(1,(i6 x6)),(5,(pN 1 0)),(6,(i6 x15)),(47,(wlV x2)),(48,(i6 x16)),(49,(i6 x17))],[],⟨sB [(0,(cB [(wlV x0),(nlV x1),(wlV x2),(nlV x3),(i6 x4),(i6 x5)] 66)),(1,(cB [(i6 x7),(i6 x8),(i6 x9),(i6 x10),(i6 x11),(i6 x12),(nlV x13),(Value.int .u64 x14)] 31))],2,1⟩)
def qb9_ (x0:W8)(x1:NL)(x2:WL rw_iLii)(x3:NL)(x4 x5 x6 x7 x8 x9 x10 x11 x12:Int)(x13:NL)(x14 x16 r:Int):Ex×XSt:=match r with
 | z0=>(.exit 0,(sT 102 [(0,(pN 0 0)),(1,(i6 x6)),(5,(pN 1 0)),(6,(i6 z0))],[],⟨sB [(0,(cB [(wlV x0),(nlV x1),(wlV x2),(nlV x3),(i6 x4),(i6 x5)] 66)),(1,(cB [(i6 x7),(i6 x8),(i6 x9),(i6 x10),(i6 x11),(i6 x12),(nlV x13),(Value.int .u64 x14)] 31))],2,1⟩))
abbrev qtg_ (rnd:Option Nat)(x0:W8)(x1:NL)(x2:WL rw_iLii)(x3:NL)(x4 x5 x6 x7 x8 x9 x10 x11 x12:Int)(x13:NL)(x14 x16:Int)(st:Int×Int)(c:Ex×XSt):Prop:=CG P rnd (fnN P 48) 1 (qx_ P 48 [false,false,true,false,true,true,true,true]) (qfk_ x0 x1 x2 x3 x4 x5 x6 x7 x8 x9 x10 x11 x12 x13 x14 x16 st) c
abbrev qth_ (rd:Option Nat)(x0:W8)(x1:NL)(x2:WL rw_iLii)(x3:NL)(x4 x5 x6 x7 x8 x9 x10 x11 x12:Int)(x13:NL)(x14 x16:Int)(st:Int×Int)(r:Int):Prop:=CG P rd (fnN P 48) 1 (qx_ P 48 [false,true,false,true,true,true,true]) (qfk_ x0 x1 x2 x3 x4 x5 x6 x7 x8 x9 x10 x11 x12 x13 x14 x16 st) (qb9_ x0 x1 x2 x3 x4 x5 x6 x7 x8 x9 x10 x11 x12 x13 x14 x16 r)
def qca_ (n:Nat)(x0:W8)(x1:NL)(x2:WL rw_iLii)(x3:NL)(x4 x5 x6 x7 x8 x9 x10 x11 x12:Int)(x13:NL)(x14 x16:Int)(st:Int×Int):Option ((Int×Int) ⊕ (Int)):=match st with
 | (x15,x17)=>
  if x17<x16 then
   if 0≤x17∧x17<(((x2).l.length:Nat):Int) then
    ((some (((x2).l).getD (x17).toNat (0,nl0,0,0)))).bind fun y3_=>
    some (.inl ((maxB x15 ((((y3_.2.1)).l.length:Nat):Int)),(w64 (x17+1))))
   else none
  else
   some (.inr x15)
def qd6_ (n:Nat)(x0:W8)(x1:NL)(x2:WL rw_iLii)(x3:NL)(x4 x5 x6 x7 x8 x9 x10 x11 x12:Int)(x13:NL)(x14 x16:Int)(st:Int×Int):Option (Int):=iterM (qca_ n x0 x1 x2 x3 x4 x5 x6 x7 x8 x9 x10 x11 x12 x13 x14 x16) n st
theorem ql1_ (n:Nat){rnd:Option Nat}(x0:W8)(x1:NL)(x2:WL rw_iLii)(x3:NL)(x4 x5 x6 x7 x8 x9 x10 x11 x12:Int)(x13:NL)(x14 x16:Int)(st:Int×Int)(o:(Int×Int) ⊕ (Int))(h:qca_ n x0 x1 x2 x3 x4 x5 x6 x7 x8 x9 x10 x11 x12 x13 x14 x16 st=some o):qtg_ rnd x0 x1 x2 x3 x4 x5 x6 x7 x8 x9 x10 x11 x12 x13 x14 x16 st (Sum.elim (fun s=>(.normal,qfk_ x0 x1 x2 x3 x4 x5 x6 x7 x8 x9 x10 x11 x12 x13 x14 x16 s)) (fun r=>qb9_ x0 x1 x2 x3 x4 x5 x6 x7 x8 x9 x10 x11 x12 x13 x14 x16 r) o):=by
 obtain⟨x15,x17⟩:=st
 unfold qca_ at h
 dsimp only at h
 by_cases hy1:x17<x16
 ·rw[if_pos hy1] at h
  obtain⟨hy2,h⟩:=gd h
  obtain⟨y3_,hy3,h⟩:=oB h
  obtain rfl:=oI h
  exact runC2 hm (kW [0,1,5,6,47,48,49] (iD 2) 2 1) (zz 1 (xdT hy1) <|
   zz 7 (xk3 (x2).num (x2).off (x2).cap hy2) <|
   zz 8 (lk27 hy3 (qw_ hy2)) <|
   ee) (by kernel_rfl)
 ·rw[if_neg hy1] at h
  obtain rfl:=oI h
  exact runC2 hm (kW [0,1,5,6] (iD 2) 2 1) (zz 1 (xdF hy1) <|
   ee) (by kernel_rfl)
theorem qjh_ (n:Nat){rnd:Option Nat}(x0:W8)(x1:NL)(x2:WL rw_iLii)(x3:NL)(x4 x5 x6 x7 x8 x9 x10 x11 x12:Int)(x13:NL)(x14 x16:Int)(st:Int×Int)(r:Int)(h:qd6_ n x0 x1 x2 x3 x4 x5 x6 x7 x8 x9 x10 x11 x12 x13 x14 x16 st=some r):qth_ rnd x0 x1 x2 x3 x4 x5 x6 x7 x8 x9 x10 x11 x12 x13 x14 x16 st r:=
 CG.iter (b:=qx_ P 48 [false,false,true,false,true,true,true,true]) (by kernel_rfl) (body:=qca_ n x0 x1 x2 x3 x4 x5 x6 x7 x8 x9 x10 x11 x12 x13 x14 x16) (S:=qfk_ x0 x1 x2 x3 x4 x5 x6 x7 x8 x9 x10 x11 x12 x13 x14 x16) (X:=qb9_ x0 x1 x2 x3 x4 x5 x6 x7 x8 x9 x10 x11 x12 x13 x14 x16)
  (fun s s' h=>ql1_ n x0 x1 x2 x3 x4 x5 x6 x7 x8 x9 x10 x11 x12 x13 x14 x16 s (.inl s') h)
  (fun s r h=>ql1_ n x0 x1 x2 x3 x4 x5 x6 x7 x8 x9 x10 x11 x12 x13 x14 x16 s (.inr r) h)
  (fun r=>by intro hx; cases hx) h
def q4_ (n:Nat)(a0:W8)(a1:NL)(a2:WL rw_iLii)(a3:NL)(a4 a5 a6:Int):Option (Int):=
 if 0≤a6∧a6<(((a0).l.length:Nat):Int) then
  ((some (((a0).l).getD (a6).toNat (0,0,0,0,0,0,nl0,0)))).bind fun c2_=>
  if (c2_.2.1)=3 then
   if (c2_.2.2.2.2.1)≤a4 then
    some 0
   else
    if (c2_.2.2.2.1) ≥ a5 then
     some 0
    else
     (qd6_ n a0 a1 a2 a3 a4 a5 a6 (c2_.1) (c2_.2.1) (c2_.2.2.1) (c2_.2.2.2.1) (c2_.2.2.2.2.1) (c2_.2.2.2.2.2.1) (c2_.2.2.2.2.2.2.1) (c2_.2.2.2.2.2.2.2) (((a2).l.length:Nat):Int) (0,0)).bind fun c6_=>
     if 0≤a6∧a6<(((a3).l.length:Nat):Int) then
      if (a6).toNat<((a3).l).length then
       ((some (((a3).l).getD (a6).toNat 0))).bind fun c9_=>
       (qd5_ n a0 a1 a2 a3 a4 a5 (c2_.1) (c2_.2.1) (c2_.2.2.1) (c2_.2.2.2.1) (c2_.2.2.2.2.1) (c2_.2.2.2.2.2.1) (c2_.2.2.2.2.2.2.1) (c2_.2.2.2.2.2.2.2) c6_ (([]:List Int),c9_)).bind fun c10_=>
       match c10_ with
       | []=>
        (qcl_ n).bind fun _=>
        (qfn_ n a2 (c2_.1)).bind fun c12_=>
        some c12_
       | c10_a::c10_t=>
        (qb2_ n (c10_a::c10_t)).bind fun c11_=>
        (qfo_ n a2 (c2_.1) c11_ (((c10_a::c10_t)).length)).bind fun c12_=>
        some c12_
      else none
     else none
  else
   if (c2_.2.1)=5 then
    if (c2_.2.2.2.2.1)≤a4 then
     some 0
    else
     if (c2_.2.2.2.1) ≥ a5 then
      some 0
     else
      (qd6_ n a0 a1 a2 a3 a4 a5 a6 (c2_.1) (c2_.2.1) (c2_.2.2.1) (c2_.2.2.2.1) (c2_.2.2.2.2.1) (c2_.2.2.2.2.2.1) (c2_.2.2.2.2.2.2.1) (c2_.2.2.2.2.2.2.2) (((a2).l.length:Nat):Int) (0,0)).bind fun c7_=>
      if 0≤a6∧a6<(((a3).l.length:Nat):Int) then
       if (a6).toNat<((a3).l).length then
        ((some (((a3).l).getD (a6).toNat 0))).bind fun c10_=>
        (qd5_ n a0 a1 a2 a3 a4 a5 (c2_.1) (c2_.2.1) (c2_.2.2.1) (c2_.2.2.2.1) (c2_.2.2.2.2.1) (c2_.2.2.2.2.2.1) (c2_.2.2.2.2.2.2.1) (c2_.2.2.2.2.2.2.2) c7_ (([]:List Int),c10_)).bind fun c11_=>
        match c11_ with
        | []=>
         (qcl_ n).bind fun _=>
         (qfn_ n a2 (c2_.1)).bind fun c13_=>
         some c13_
        | c11_a::c11_t=>
         (qb2_ n (c11_a::c11_t)).bind fun c12_=>
         (qfo_ n a2 (c2_.1) c12_ (((c11_a::c11_t)).length)).bind fun c13_=>
         some c13_
       else none
      else none
   else
    some 0
 else none
theorem qe6_ (n:Nat)(a0:W8)(a1:NL)(a2:WL rw_iLii)(a3:NL)(a4 a5 a6 r:Int)(h:q4_ n a0 a1 a2 a3 a4 a5 a6=some r):qvd_ a0 a1 a2 a3 a4 a5 a6 r:=by
 unfold q4_ at h
 obtain⟨hc1,h⟩:=gd h
 obtain⟨c2_,hc2,h⟩:=oB h
 have k0:=fun {A L l} (k:PL A L l)=>zz 8 (xk1 (a0).num (a0).off (a0).cap hc1) <|
  zz 9 (lk2 hc2 (qw_ hc1)) <|
  k
 by_cases hc3:(c2_.2.1)=3
 ·rw[if_pos hc3] at h
  have k2:=fun {A L l} (k:PL A L l)=>zz 16 (xnF hc3) <|
   k
  by_cases hc4:(c2_.2.2.2.2.1)≤a4
  ·rw[if_pos hc4] at h
   obtain rfl:=oI h
   exact runF2 hm (kW [4] [] 1 1) (k0 <|
    k2 <|
    zz 29 (xdT hc4) <|
    ee) (by kernel_rfl)
  ·rw[if_neg hc4] at h
   have k3:=fun {A L l} (k:PL A L l)=>zz 29 (xdF hc4) <|
    k
   by_cases hc5:(c2_.2.2.2.1) ≥ a5
   ·rw[if_pos hc5] at h
    obtain rfl:=oI h
    exact runF2 hm (kW [4] [] 1 1) (k0 <|
     k2 <|
     k3 <|
     zz 38 (xdT hc5) <|
     ee) (by kernel_rfl)
   ·rw[if_neg hc5] at h
    obtain⟨c6_,hc6,h⟩:=oB h
    obtain⟨hc7,h⟩:=gd h
    obtain⟨hc8,h⟩:=gd h
    obtain⟨c9_,hc9,h⟩:=oB h
    obtain⟨c10_,hc10,h⟩:=oB h
    have k4:=fun {A L l} (k:PL A L l)=>zz 38 (xdF hc5) <|
     ww (qjh_ n (rnd:=none) a0 a1 a2 a3 a4 a5 a6 (c2_.1) (c2_.2.1) (c2_.2.2.1) (c2_.2.2.2.1) (c2_.2.2.2.2.1) (c2_.2.2.2.2.2.1) (c2_.2.2.2.2.2.2.1) (c2_.2.2.2.2.2.2.2) (((a2).l.length:Nat):Int) (0,0) c6_ hc6) <|
     ll 52 ⟨(kW [0,1,5,6,47,48,49] (iD 2) 2 1),(qb9_ a0 a1 a2 a3 a4 a5 a6 (c2_.1) (c2_.2.1) (c2_.2.2.1) (c2_.2.2.2.1) (c2_.2.2.2.2.1) (c2_.2.2.2.2.2.1) (c2_.2.2.2.2.2.2.1) (c2_.2.2.2.2.2.2.2) (((a2).l.length:Nat):Int) c6_).1,(qb9_ a0 a1 a2 a3 a4 a5 a6 (c2_.1) (c2_.2.1) (c2_.2.2.1) (c2_.2.2.2.1) (c2_.2.2.2.2.1) (c2_.2.2.2.2.2.1) (c2_.2.2.2.2.2.2.1) (c2_.2.2.2.2.2.2.2) (((a2).l.length:Nat):Int) c6_).2⟩ <|
     zz 62 (xk12 (Nat.add (a3).num 64) (a3).off (a3).cap hc7) <|
     zz 63 (nk13 hc9 hc8) <|
     k
    cases c10_ with
    | nil=>
     dsimp only at h
     obtain⟨_,hc11,h⟩:=oB h
     obtain⟨c12_,hc12,h⟩:=oB h
     obtain rfl:=oI h
     exact runF2 hm (kW [4] [] 1 1) (k0 <|
      k2 <|
      k3 <|
      k4 <|
      ww (qed_ n (rnd:=none) a0 a1 a2 a3 a4 a5 (c2_.1) (c2_.2.1) (c2_.2.2.1) (c2_.2.2.2.1) (c2_.2.2.2.2.1) (c2_.2.2.2.2.2.1) (c2_.2.2.2.2.2.2.1) (c2_.2.2.2.2.2.2.2) c6_ (([]:List Int),c9_) ([]:List Int) hc10) <|
      ll 66 ⟨(kW [0,5,6,9,10] (iD 2) 3 1),(qz_ a0 a1 a2 a3 a4 a5 (c2_.1) (c2_.2.1) (c2_.2.2.1) (c2_.2.2.2.1) (c2_.2.2.2.2.1) (c2_.2.2.2.2.2.1) (c2_.2.2.2.2.2.2.1) (c2_.2.2.2.2.2.2.2) c6_ ([]:List Int)).1,(qz_ a0 a1 a2 a3 a4 a5 (c2_.1) (c2_.2.1) (c2_.2.2.1) (c2_.2.2.2.1) (c2_.2.2.2.2.1) (c2_.2.2.2.2.2.1) (c2_.2.2.2.2.2.2.1) (c2_.2.2.2.2.2.2.2) c6_ ([]:List Int)).2⟩ <|
      yy 69 (.call (qkp_  () [] [])) <|
      ww (qid_ n  () hc11) <|
      yy 78 (.call (quu_ a2 (c2_.1) c12_ [] [])) <|
      ww (qp4_ n a2 (c2_.1) c12_ hc12) <|
      ee) (by kernel_rfl)
    | cons c10_a c10_t=>
     dsimp only at h
     obtain⟨c11_,hc11,h⟩:=oB h
     obtain⟨c12_,hc12,h⟩:=oB h
     obtain rfl:=oI h
     exact runF2 hm (kW [4] [] 1 1) (k0 <|
      k2 <|
      k3 <|
      k4 <|
      ww (qed_ n (rnd:=none) a0 a1 a2 a3 a4 a5 (c2_.1) (c2_.2.1) (c2_.2.2.1) (c2_.2.2.2.1) (c2_.2.2.2.2.1) (c2_.2.2.2.2.2.1) (c2_.2.2.2.2.2.2.1) (c2_.2.2.2.2.2.2.2) c6_ (([]:List Int),c9_) (c10_a::c10_t) hc10) <|
      ll 66 ⟨(kW [0,5,6,9,10] (iD 2) 3 1),(qz_ a0 a1 a2 a3 a4 a5 (c2_.1) (c2_.2.1) (c2_.2.2.1) (c2_.2.2.2.1) (c2_.2.2.2.2.1) (c2_.2.2.2.2.2.1) (c2_.2.2.2.2.2.2.1) (c2_.2.2.2.2.2.2.2) c6_ (c10_a::c10_t)).1,(qz_ a0 a1 a2 a3 a4 a5 (c2_.1) (c2_.2.1) (c2_.2.2.1) (c2_.2.2.2.1) (c2_.2.2.2.2.1) (c2_.2.2.2.2.2.1) (c2_.2.2.2.2.2.2.1) (c2_.2.2.2.2.2.2.2) c6_ (c10_a::c10_t)).2⟩ <|
      yy 69 (.call (qkt_ (c10_a::c10_t) c11_ [(0,2,true)] [(2,0,true)])) <|
      ww (qie_ n (c10_a::c10_t) c11_ hc11) <|
      ww (qd_ (c10_a::c10_t) 3) <|
      ww (qd_ c11_ 3) <|
      yy 78 (.call (qux_ a2 (c2_.1) c11_ (((c10_a::c10_t)).length) c12_ [(0,2,true)] [(2,0,true)])) <|
      ww (qp8_ n a2 (c2_.1) c11_ (((c10_a::c10_t)).length) c12_ hc12) <|
      ww (qd_ c11_ 3) <|
      ww (qd_ c11_ 3) <|
      ee) (by kernel_rfl)
 ·rw[if_neg hc3] at h
  have k2:=fun {A L l} (k:PL A L l)=>zz 16 (xnT hc3) <|
   k
  by_cases hc4:(c2_.2.1)=5
  ·rw[if_pos hc4] at h
   have k3:=fun {A L l} (k:PL A L l)=>zz 20 (xnF hc4) <|
    k
   by_cases hc5:(c2_.2.2.2.2.1)≤a4
   ·rw[if_pos hc5] at h
    obtain rfl:=oI h
    exact runF2 hm (kW [4] [] 1 1) (k0 <|
     k2 <|
     k3 <|
     zz 29 (xdT hc5) <|
     ee) (by kernel_rfl)
   ·rw[if_neg hc5] at h
    have k4:=fun {A L l} (k:PL A L l)=>zz 29 (xdF hc5) <|
     k
    by_cases hc6:(c2_.2.2.2.1) ≥ a5
    ·rw[if_pos hc6] at h
     obtain rfl:=oI h
     exact runF2 hm (kW [4] [] 1 1) (k0 <|
      k2 <|
      k3 <|
      k4 <|
      zz 38 (xdT hc6) <|
      ee) (by kernel_rfl)
    ·rw[if_neg hc6] at h
     obtain⟨c7_,hc7,h⟩:=oB h
     obtain⟨hc8,h⟩:=gd h
     obtain⟨hc9,h⟩:=gd h
     obtain⟨c10_,hc10,h⟩:=oB h
     obtain⟨c11_,hc11,h⟩:=oB h
     have k5:=fun {A L l} (k:PL A L l)=>zz 38 (xdF hc6) <|
      ww (qjh_ n (rnd:=none) a0 a1 a2 a3 a4 a5 a6 (c2_.1) (c2_.2.1) (c2_.2.2.1) (c2_.2.2.2.1) (c2_.2.2.2.2.1) (c2_.2.2.2.2.2.1) (c2_.2.2.2.2.2.2.1) (c2_.2.2.2.2.2.2.2) (((a2).l.length:Nat):Int) (0,0) c7_ hc7) <|
      ll 52 ⟨(kW [0,1,5,6,47,48,49] (iD 2) 2 1),(qb9_ a0 a1 a2 a3 a4 a5 a6 (c2_.1) (c2_.2.1) (c2_.2.2.1) (c2_.2.2.2.1) (c2_.2.2.2.2.1) (c2_.2.2.2.2.2.1) (c2_.2.2.2.2.2.2.1) (c2_.2.2.2.2.2.2.2) (((a2).l.length:Nat):Int) c7_).1,(qb9_ a0 a1 a2 a3 a4 a5 a6 (c2_.1) (c2_.2.1) (c2_.2.2.1) (c2_.2.2.2.1) (c2_.2.2.2.2.1) (c2_.2.2.2.2.2.1) (c2_.2.2.2.2.2.2.1) (c2_.2.2.2.2.2.2.2) (((a2).l.length:Nat):Int) c7_).2⟩ <|
      zz 62 (xk12 (Nat.add (a3).num 64) (a3).off (a3).cap hc8) <|
      zz 63 (nk13 hc10 hc9) <|
      k
     cases c11_ with
     | nil=>
      dsimp only at h
      obtain⟨_,hc12,h⟩:=oB h
      obtain⟨c13_,hc13,h⟩:=oB h
      obtain rfl:=oI h
      exact runF2 hm (kW [4] [] 1 1) (k0 <|
       k2 <|
       k3 <|
       k4 <|
       k5 <|
       ww (qed_ n (rnd:=none) a0 a1 a2 a3 a4 a5 (c2_.1) (c2_.2.1) (c2_.2.2.1) (c2_.2.2.2.1) (c2_.2.2.2.2.1) (c2_.2.2.2.2.2.1) (c2_.2.2.2.2.2.2.1) (c2_.2.2.2.2.2.2.2) c7_ (([]:List Int),c10_) ([]:List Int) hc11) <|
       ll 66 ⟨(kW [0,5,6,9,10] (iD 2) 3 1),(qz_ a0 a1 a2 a3 a4 a5 (c2_.1) (c2_.2.1) (c2_.2.2.1) (c2_.2.2.2.1) (c2_.2.2.2.2.1) (c2_.2.2.2.2.2.1) (c2_.2.2.2.2.2.2.1) (c2_.2.2.2.2.2.2.2) c7_ ([]:List Int)).1,(qz_ a0 a1 a2 a3 a4 a5 (c2_.1) (c2_.2.1) (c2_.2.2.1) (c2_.2.2.2.1) (c2_.2.2.2.2.1) (c2_.2.2.2.2.2.1) (c2_.2.2.2.2.2.2.1) (c2_.2.2.2.2.2.2.2) c7_ ([]:List Int)).2⟩ <|
       yy 69 (.call (qkp_  () [] [])) <|
       ww (qid_ n  () hc12) <|
       yy 78 (.call (quu_ a2 (c2_.1) c13_ [] [])) <|
       ww (qp4_ n a2 (c2_.1) c13_ hc13) <|
       ee) (by kernel_rfl)
     | cons c11_a c11_t=>
      dsimp only at h
      obtain⟨c12_,hc12,h⟩:=oB h
      obtain⟨c13_,hc13,h⟩:=oB h
      obtain rfl:=oI h
      exact runF2 hm (kW [4] [] 1 1) (k0 <|
       k2 <|
       k3 <|
       k4 <|
       k5 <|
       ww (qed_ n (rnd:=none) a0 a1 a2 a3 a4 a5 (c2_.1) (c2_.2.1) (c2_.2.2.1) (c2_.2.2.2.1) (c2_.2.2.2.2.1) (c2_.2.2.2.2.2.1) (c2_.2.2.2.2.2.2.1) (c2_.2.2.2.2.2.2.2) c7_ (([]:List Int),c10_) (c11_a::c11_t) hc11) <|
       ll 66 ⟨(kW [0,5,6,9,10] (iD 2) 3 1),(qz_ a0 a1 a2 a3 a4 a5 (c2_.1) (c2_.2.1) (c2_.2.2.1) (c2_.2.2.2.1) (c2_.2.2.2.2.1) (c2_.2.2.2.2.2.1) (c2_.2.2.2.2.2.2.1) (c2_.2.2.2.2.2.2.2) c7_ (c11_a::c11_t)).1,(qz_ a0 a1 a2 a3 a4 a5 (c2_.1) (c2_.2.1) (c2_.2.2.1) (c2_.2.2.2.1) (c2_.2.2.2.2.1) (c2_.2.2.2.2.2.1) (c2_.2.2.2.2.2.2.1) (c2_.2.2.2.2.2.2.2) c7_ (c11_a::c11_t)).2⟩ <|
       yy 69 (.call (qkt_ (c11_a::c11_t) c12_ [(0,2,true)] [(2,0,true)])) <|
       ww (qie_ n (c11_a::c11_t) c12_ hc12) <|
       ww (qd_ (c11_a::c11_t) 3) <|
       ww (qd_ c12_ 3) <|
       yy 78 (.call (qux_ a2 (c2_.1) c12_ (((c11_a::c11_t)).length) c13_ [(0,2,true)] [(2,0,true)])) <|
       ww (qp8_ n a2 (c2_.1) c12_ (((c11_a::c11_t)).length) c13_ hc13) <|
       ww (qd_ c12_ 3) <|
       ww (qd_ c12_ 3) <|
       ee) (by kernel_rfl)
  ·rw[if_neg hc4] at h
   obtain rfl:=oI h
   exact runF2 hm (kW [4] [] 1 1) (k0 <|
    k2 <|
    zz 20 (xnT hc4) <|
    ee) (by kernel_rfl)

def qwc_ (a0 a1 a2 a3 a4 a5 a6 a7:Int)(r:Bool):Value:=match r with
 | o0=>(bO o0)
def qwd_ (a0 a1 a2 a3 a4 a5 a6 a7:Int)(r:Bool):AH:=match r with
 | o0=>⟨sB [],0,0⟩
abbrev q10_ (a0 a1 a2 a3 a4 a5 a6 a7:Int)(r:Bool):Prop:=Gv P (.func 49) [(Value.agg #[(i6 a0),(i6 a1),(i6 a2),(i6 a3)]),(Value.agg #[(i6 a4),(i6 a5),(i6 a6),(i6 a7)])] ⟨sB [],0,0⟩ (qwc_ a0 a1 a2 a3 a4 a5 a6 a7 r) (qwd_ a0 a1 a2 a3 a4 a5 a6 a7 r)
abbrev q11_ (a0 a1 a2 a3 a4 a5 a6 a7:Int)(r:Bool)(ins outs:BL):CallA:=⟨0,ins,qwc_ a0 a1 a2 a3 a4 a5 a6 a7 r,qwd_ a0 a1 a2 a3 a4 a5 a6 a7 r,outs⟩
def qm7_ (n:Nat)(a0 a1 a2 a3 a4 a5 a6 a7:Int):Option (Bool):=
 if a2=a6 then
  if a3=a7 then
   some true
  else
   some false
 else
  some false
theorem qxx_ (n:Nat)(a0 a1 a2 a3 a4 a5 a6 a7:Int)(r:Bool)(h:qm7_ n a0 a1 a2 a3 a4 a5 a6 a7=some r):q10_ a0 a1 a2 a3 a4 a5 a6 a7 r:=by
 unfold qm7_ at h
 by_cases hc1:a2=a6
 ·rw[if_pos hc1] at h
  have k0:=fun {A L l} (k:PL A L l)=>zz 9 (xeT hc1) <|
   k
  by_cases hc2:a3=a7
  ·rw[if_pos hc2] at h
   obtain rfl:=oI h
   exact runF2 hm (kW [4] [] 0 0) (k0 <|
    zz 15 (xeT hc2) <|
    ee) (by kernel_rfl)
  ·rw[if_neg hc2] at h
   obtain rfl:=oI h
   exact runF2 hm (kW [4] [] 0 0) (k0 <|
    zz 15 (xeF hc2) <|
    ee) (by kernel_rfl)
 ·rw[if_neg hc1] at h
  obtain rfl:=oI h
  exact runF2 hm (kW [4] [] 0 0) (zz 9 (xeF hc1) <|
   ee) (by kernel_rfl)

def quy_ (a0 a1 a2 a3 a4 a5 a6 a7:Int)(r:Int×Int×Int×Int×Bool):Value:=match r with
 | (o0,o1,o2,o3,o4)=>(Value.tuple #[(Value.agg #[(i6 o0),(i6 o1),(i6 o2),(i6 o3)]),(bO o4)])
def quz_ (a0 a1 a2 a3 a4 a5 a6 a7:Int)(r:Int×Int×Int×Int×Bool):AH:=match r with
 | (o0,o1,o2,o3,o4)=>⟨sB [(0,(cB [(i6 o0),(i6 o1),(i6 o2),(i6 o3)] 38))],1,0⟩
abbrev q0c_ (a0 a1 a2 a3 a4 a5 a6 a7:Int)(r:Int×Int×Int×Int×Bool):Prop:=Gv P (.func 27) [(Value.agg #[(i6 a0),(i6 a1),(i6 a2),(i6 a3)]),(Value.agg #[(i6 a4),(i6 a5),(i6 a6),(i6 a7)])] ⟨sB [],0,0⟩ (quy_ a0 a1 a2 a3 a4 a5 a6 a7 r) (quz_ a0 a1 a2 a3 a4 a5 a6 a7 r)
abbrev qu0_ (a0 a1 a2 a3 a4 a5 a6 a7:Int)(r:Int×Int×Int×Int×Bool)(ins outs:BL):CallA:=⟨0,ins,quy_ a0 a1 a2 a3 a4 a5 a6 a7 r,quz_ a0 a1 a2 a3 a4 a5 a6 a7 r,outs⟩
def qgm_ (n:Nat)(a0 a1 a2 a3 a4 a5 a6 a7:Int):Option (Int×Int×Int×Int×Bool):=
 (qm7_ n a0 a1 a2 a3 a4 a5 a6 a7).bind fun c1_=>
 if c1_=true then
  if a1=a4 then
   some (a0,a5,a2,a3,true)
  else
   some (0,0,0,0,false)
 else
  some (0,0,0,0,false)
theorem qp9_ (n:Nat)(a0 a1 a2 a3 a4 a5 a6 a7:Int)(r:Int×Int×Int×Int×Bool)(h:qgm_ n a0 a1 a2 a3 a4 a5 a6 a7=some r):q0c_ a0 a1 a2 a3 a4 a5 a6 a7 r:=by
 unfold qgm_ at h
 obtain⟨c1_,hc1,h⟩:=oB h
 have k0:=fun {A L l} (k:PL A L l)=>yy 9 (.call (q11_ a0 a1 a2 a3 a4 a5 a6 a7 c1_ [] [])) <|
  ww (qxx_ n a0 a1 a2 a3 a4 a5 a6 a7 c1_ hc1) <|
  k
 by_cases hc2:c1_=true
 ·rw[if_pos hc2] at h
  have k2:=fun {A L l} (k:PL A L l)=>yy 10 (vf) <|
   ww (p:=(Value.bool (!c1_))=(Value.bool false)) (vBn hc2) <|
   k
  by_cases hc3:a1=a4
  ·rw[if_pos hc3] at h
   obtain rfl:=oI h
   exact runF2 hm (kW [4,5] [(0,2,false)] 1 0) (k0 <|
    k2 <|
    zz 16 (xnF hc3) <|
    ee) (by kernel_rfl)
  ·rw[if_neg hc3] at h
   obtain rfl:=oI h
   exact runF2 hm (kW [4,5] [(0,2,false)] 1 0) (k0 <|
    k2 <|
    zz 16 (xnT hc3) <|
    ee) (by kernel_rfl)
 ·rw[if_neg hc2] at h
  obtain rfl:=oI h
  exact runF2 hm (kW [4,5] [(0,2,false)] 1 0) (k0 <|
   yy 10 (vt) <|
   ww (p:=(Value.bool (!c1_))=(Value.bool true)) (vBn (Bool.eq_false_iff.2 hc2)) <|
   ee) (by kernel_rfl)

def qhu_ (a0:List (Int×Int×Int×Int))(a1:W8)(a2:NL)(a3:WL rw_iLii)(a4:NL)(a5 a6 a7 a8 a9 a10:Int)(r:List (Int×Int×Int×Int)×Nat):Value:=match r with
 | (o0,o1)=>(bO true)
def qhv_ (a0:List (Int×Int×Int×Int))(a1:W8)(a2:NL)(a3:WL rw_iLii)(a4:NL)(a5 a6 a7 a8 a9 a10:Int)(r:List (Int×Int×Int×Int)×Nat):AH:=match r with
 | (o0,o1)=>⟨sB [(0,(some (rblk P 25 [false,true,false,true,true] .ready none [(3,(pN 2 0)),(5,(pN 3 0)),(10,(Value.func (.func 45) #[] #[(pN 5 0)]))] 1))),(1,(some (.marks true))),(2,(cB [(Value.func (.func 27) #[] #[])] 71)),(3,(cB [(sN 7 0 o1 (Nat.add big 4))] 34)),(5,(cB [(pN 6 0)] 107)),(6,(cB [(wlV a1),(nlV a2),(wlV a3),(nlV a4),(i6 a5),(i6 a6)] 66)),(7,(cB (rows qm_ o0) 38))],8,0⟩
abbrev qog_ (a0:List (Int×Int×Int×Int))(a1:W8)(a2:NL)(a3:WL rw_iLii)(a4:NL)(a5 a6 a7 a8 a9 a10:Int)(r:List (Int×Int×Int×Int)×Nat):Prop:=Gv P (.yield 0) [(Value.agg #[(i6 a7),(i6 a8),(i6 a9),(i6 a10)])] ⟨sB [(0,(some (rblk P 25 [false,true,false,true,true] .ready none [(3,(pN 2 0)),(5,(pN 3 0)),(10,(Value.func (.func 45) #[] #[(pN 5 0)]))] 1))),(1,(some (.marks true))),(2,(cB [(Value.func (.func 27) #[] #[])] 71)),(3,(cB [(sN 4 0 (a0).length (Nat.add big 4))] 34)),(4,(cB (rows qm_ a0) 38)),(5,(cB [(pN 6 0)] 107)),(6,(cB [(wlV a1),(nlV a2),(wlV a3),(nlV a4),(i6 a5),(i6 a6)] 66))],7,7⟩ (qhu_ a0 a1 a2 a3 a4 a5 a6 a7 a8 a9 a10 r) (qhv_ a0 a1 a2 a3 a4 a5 a6 a7 a8 a9 a10 r)
abbrev qoh_ (a0:List (Int×Int×Int×Int))(a1:W8)(a2:NL)(a3:WL rw_iLii)(a4:NL)(a5 a6 a7 a8 a9 a10:Int)(r:List (Int×Int×Int×Int)×Nat)(ins outs:BL):CallA:=⟨7,ins,qhu_ a0 a1 a2 a3 a4 a5 a6 a7 a8 a9 a10 r,qhv_ a0 a1 a2 a3 a4 a5 a6 a7 a8 a9 a10 r,outs⟩
def qcf_ (n:Nat)(a0:List (Int×Int×Int×Int))(a1:W8)(a2:NL)(a3:WL rw_iLii)(a4:NL)(a5 a6 a7 a8 a9 a10:Int):Option (List (Int×Int×Int×Int)×Nat):=
 ((some (w64 ((((a0).length:Nat):Int)-1)))).bind fun c1_=>
 if c1_ ≥ 0 then
  if 0≤c1_∧c1_<(((a0).length:Nat):Int) then
   ((some ((a0).getD (c1_).toNat (0,0,0,0)))).bind fun c4_=>
   (qgm_ n (c4_.1) (c4_.2.1) (c4_.2.2.1) (c4_.2.2.2) a7 a8 a9 a10).bind fun t=>match t with
   | (c5_0,c5_1,c5_2,c5_3,c5_4)=>
    if c5_4=true then
     some (((a0).set (c1_).toNat (c5_0,c5_1,c5_2,c5_3)),((a0).length))
    else
     if ((a0).length+1)*32≤140737488355328 then
      some ((a0 ++ [(a7,a8,a9,a10)]),(((a0 ++ [(a7,a8,a9,a10)])).length))
     else none
  else none
 else
  if ((a0).length+1)*32≤140737488355328 then
   some ((a0 ++ [(a7,a8,a9,a10)]),(((a0 ++ [(a7,a8,a9,a10)])).length))
  else none
theorem ql6_ (n:Nat)(a0:List (Int×Int×Int×Int))(a1:W8)(a2:NL)(a3:WL rw_iLii)(a4:NL)(a5 a6 a7 a8 a9 a10:Int)(r:List (Int×Int×Int×Int)×Nat)(h:qcf_ n a0 a1 a2 a3 a4 a5 a6 a7 a8 a9 a10=some r):qog_ a0 a1 a2 a3 a4 a5 a6 a7 a8 a9 a10 r:=by
 unfold qcf_ at h
 obtain⟨c1_,hc1,h⟩:=oB h
 have k0:=fun {A L l} (k:PL A L l)=>zz 5 (xnm hc1) <|
  k
 by_cases hc2:c1_ ≥ 0
 ·rw[if_pos hc2] at h
  obtain⟨hc3,h⟩:=gd h
  obtain⟨c4_,hc4,h⟩:=oB h
  obtain⟨⟨c5_0,c5_1,c5_2,c5_3,c5_4⟩,hc5,h⟩:=oB h
  dsimp only at h
  have k1:=fun {A L l} (k:PL A L l)=>zz 9 (xdT hc2) <|
   zz 15 (xk30 4 U4 hc3) <|
   yy 16 (.ld (Value.agg #[(i6 (c4_.1)),(i6 (c4_.2.1)),(i6 (c4_.2.2.1)),(i6 (c4_.2.2.2))])) <|
   ww (p:=rdT (layT (rows qm_ a0)) 4 ((c1_).toNat*4)=some [(i6 (c4_.1)),(i6 (c4_.2.1)),(i6 (c4_.2.2.1)),(i6 (c4_.2.2.2))]) (rows_rdpN qn_ (0,0,0,0) (hr:=hc4) (i:=(c1_).toNat) (j:=0) ((c1_).toNat*4) rfl (qw_ hc3) (by decide) rfl) <|
   yy 18 (.call (qu0_ (c4_.1) (c4_.2.1) (c4_.2.2.1) (c4_.2.2.2) a7 a8 a9 a10 (c5_0,c5_1,c5_2,c5_3,c5_4) [] [(19,0,false)])) <|
   ww (qp9_ n (c4_.1) (c4_.2.1) (c4_.2.2.1) (c4_.2.2.2) a7 a8 a9 a10 (c5_0,c5_1,c5_2,c5_3,c5_4) hc5) <|
   k
  by_cases hc6:c5_4=true
  ·rw[if_pos hc6] at h
   obtain rfl:=oI h
   exact runY2 hm (kW [] [(0,0,false),(1,1,false),(2,2,false),(3,3,false),(5,5,false),(6,6,false),(7,4,true)] 8 0) (ee) (k0 <|
    k1 <|
    zz 27 (xbT hc6) <|
    zz 32 (xk30 4 U4 hc3) <|
    z2 33 (ste (k:=4) (qxd_ qn_ (0,0,0,0) (i:=(c1_).toNat) (j:=0) (l:=[(i6 c5_0),(i6 c5_1),(i6 c5_2),(i6 c5_3)]) (c5_0,c5_1,c5_2,c5_3) ((c1_).toNat*4) rfl (qw_ hc3) (Nat.le_of_ble_eq_true rfl) rfl)) <|
    ww (qb_ qn_ ((a0).set (c1_).toNat (c5_0,c5_1,c5_2,c5_3)) 38) <|
    ee) (by kernel_rfl)
  ·rw[if_neg hc6] at h
   obtain⟨hc7,h⟩:=gd h
   obtain rfl:=oI h
   exact runY2 hm (kW [] [(0,0,false),(1,1,false),(2,2,false),(3,3,false),(5,5,false),(6,6,false),(7,21,true)] 8 0) (ee) (k0 <|
    k1 <|
    zz 27 (xbF hc6) <|
    yy 31 (.app ⟨none,rows qm_ a0,(rows qm_ (a0 ++ [(a7,a8,a9,a10)])),((a0 ++ [(a7,a8,a9,a10)])).length,false⟩) <|
    ww (p:=0<1) ((by decide)) <|
    ww (p:=rdT (layT (rows qm_ a0)) (Nat.mul (a0).length 4) 0=some (rows qm_ a0)) (rows_rd qn_ _ _ rfl) <|
    ww (p:=fits (Nat.add (a0).length 1) 32=true) (ql8_ hc7 (by have:=hc7; show (_:Nat)+_≤_; omega)) <|
    ww (p:=qbn_ [(i6 a7),(i6 a8),(i6 a9),(i6 a10)]=true) (rfl) <|
    ww (p:=qbn_ (rows qm_ a0)=true) (qlg_ qn_ _) <|
    ww (p:=rows qm_ a0 ++ [(i6 a7),(i6 a8),(i6 a9),(i6 a10)]=(rows qm_ (a0 ++ [(a7,a8,a9,a10)]))) (qu9_ qm_ a0 [(a7,a8,a9,a10)]) <|
    ww (p:=Nat.add (a0).length 1=((a0 ++ [(a7,a8,a9,a10)])).length) (by simp) <|
    ww (qb_ qn_ (a0 ++ [(a7,a8,a9,a10)]) 38) <|
    ee) (by kernel_rfl)
 ·rw[if_neg hc2] at h
  obtain⟨hc3,h⟩:=gd h
  obtain rfl:=oI h
  exact runY2 hm (kW [] [(0,0,false),(1,1,false),(2,2,false),(3,3,false),(5,5,false),(6,6,false),(7,9,true)] 8 0) (ee) (k0 <|
   zz 9 (xdF hc2) <|
   yy 14 (.app ⟨none,rows qm_ a0,(rows qm_ (a0 ++ [(a7,a8,a9,a10)])),((a0 ++ [(a7,a8,a9,a10)])).length,false⟩) <|
   ww (p:=0<1) ((by decide)) <|
   ww (p:=rdT (layT (rows qm_ a0)) (Nat.mul (a0).length 4) 0=some (rows qm_ a0)) (rows_rd qn_ _ _ rfl) <|
   ww (p:=fits (Nat.add (a0).length 1) 32=true) (ql8_ hc3 (by have:=hc3; show (_:Nat)+_≤_; omega)) <|
   ww (p:=qbn_ [(i6 a7),(i6 a8),(i6 a9),(i6 a10)]=true) (rfl) <|
   ww (p:=qbn_ (rows qm_ a0)=true) (qlg_ qn_ _) <|
   ww (p:=rows qm_ a0 ++ [(i6 a7),(i6 a8),(i6 a9),(i6 a10)]=(rows qm_ (a0 ++ [(a7,a8,a9,a10)]))) (qu9_ qm_ a0 [(a7,a8,a9,a10)]) <|
   ww (p:=Nat.add (a0).length 1=((a0 ++ [(a7,a8,a9,a10)])).length) (by simp) <|
   ww (qb_ qn_ (a0 ++ [(a7,a8,a9,a10)]) 38) <|
   ee) (by kernel_rfl)

def qig_ (a0 a1 a2 a3:Int)(a4:W8)(a5:NL)(a6:WL rw_iLii)(a7:NL)(a8 a9:Int)(a10:List (Int×Int×Int×Int))(r:List (Int×Int×Int×Int)×Nat):Value:=match r with
 | (o0,o1)=>(bO true)
def qih_ (a0 a1 a2 a3:Int)(a4:W8)(a5:NL)(a6:WL rw_iLii)(a7:NL)(a8 a9:Int)(a10:List (Int×Int×Int×Int))(r:List (Int×Int×Int×Int)×Nat):AH:=match r with
 | (o0,o1)=>⟨sB [(0,(cB [(pN 1 0)] 107)),(1,(cB [(wlV a4),(nlV a5),(wlV a6),(nlV a7),(i6 a8),(i6 a9)] 66)),(2,(cB [(Value.func (.yield 3) #[] #[])] 108)),(3,(some (rblk P 25 [false,true,false,true,true] .ready none [(3,(pN 5 0)),(5,(pN 6 0)),(10,(Value.func (.func 45) #[] #[(pN 0 0)]))] 4))),(4,(some (.marks true))),(5,(cB [(Value.func (.func 27) #[] #[])] 71)),(6,(cB [(sN 8 0 o1 (Nat.add big 4))] 34)),(8,(cB (rows qm_ o0) 38))],9,0⟩
abbrev qpb_ (a0 a1 a2 a3:Int)(a4:W8)(a5:NL)(a6:WL rw_iLii)(a7:NL)(a8 a9:Int)(a10:List (Int×Int×Int×Int))(r:List (Int×Int×Int×Int)×Nat):Prop:=Gv P (.func 46) [(i6 a0),(i6 a1),(i6 a2),(i6 a3),(pN 0 0),(pN 2 0)] ⟨sB [(0,(cB [(pN 1 0)] 107)),(1,(cB [(wlV a4),(nlV a5),(wlV a6),(nlV a7),(i6 a8),(i6 a9)] 66)),(2,(cB [(Value.func (.yield 3) #[] #[])] 108)),(3,(some (rblk P 25 [false,true,false,true,true] .ready none [(3,(pN 5 0)),(5,(pN 6 0)),(10,(Value.func (.func 45) #[] #[(pN 0 0)]))] 4))),(4,(some (.marks true))),(5,(cB [(Value.func (.func 27) #[] #[])] 71)),(6,(cB [(sN 7 0 (a10).length (Nat.add big 4))] 34)),(7,(cB (rows qm_ a10) 38))],8,8⟩ (qig_ a0 a1 a2 a3 a4 a5 a6 a7 a8 a9 a10 r) (qih_ a0 a1 a2 a3 a4 a5 a6 a7 a8 a9 a10 r)
abbrev qii_ (a0 a1 a2 a3:Int)(a4:W8)(a5:NL)(a6:WL rw_iLii)(a7:NL)(a8 a9:Int)(a10:List (Int×Int×Int×Int))(r:List (Int×Int×Int×Int)×Nat)(ins outs:BL):CallA:=⟨8,ins,qig_ a0 a1 a2 a3 a4 a5 a6 a7 a8 a9 a10 r,qih_ a0 a1 a2 a3 a4 a5 a6 a7 a8 a9 a10 r,outs⟩
def qbz_ (n:Nat)(a0 a1 a2 a3:Int)(a4:W8)(a5:NL)(a6:WL rw_iLii)(a7:NL)(a8 a9:Int)(a10:List (Int×Int×Int×Int)):Option (List (Int×Int×Int×Int)×Nat):=
 if (maxB a0 a8) ≥ (minB a1 a9) then
  some (a10,((a10).length))
 else
  (qcf_ n a10 a4 a5 a6 a7 a8 a9 (maxB a0 a8) (minB a1 a9) a2 a3).bind fun t=>match t with
  | (c2_0,c2_1)=>
   some (c2_0,c2_1)
theorem qgy_ (n:Nat)(a0 a1 a2 a3:Int)(a4:W8)(a5:NL)(a6:WL rw_iLii)(a7:NL)(a8 a9:Int)(a10:List (Int×Int×Int×Int))(r:List (Int×Int×Int×Int)×Nat)(h:qbz_ n a0 a1 a2 a3 a4 a5 a6 a7 a8 a9 a10=some r):qpb_ a0 a1 a2 a3 a4 a5 a6 a7 a8 a9 a10 r:=by
 unfold qbz_ at h
 by_cases hc1:(maxB a0 a8) ≥ (minB a1 a9)
 ·rw[if_pos hc1] at h
  obtain rfl:=oI h
  exact runF2 hm (kW [10] [(0,0,false),(1,1,false),(2,2,false),(3,3,false),(4,4,false),(5,5,false),(6,6,false),(8,7,true)] 9 0) (zz 20 (xdT hc1) <|
   ww (qb_ qn_ a10 38) <|
   ee) (by kernel_rfl)
 ·rw[if_neg hc1] at h
  obtain⟨⟨c2_0,c2_1⟩,hc2,h⟩:=oB h
  dsimp only at h
  obtain rfl:=oI h
  exact runF2 hm (kW [10] [(0,0,false),(1,1,false),(2,2,false),(3,3,false),(4,4,false),(5,5,false),(6,6,false),(8,8,true)] 9 0) (zz 20 (xdF hc1) <|
   yy 28 (.call (qoh_ a10 a4 a5 a6 a7 a8 a9 (maxB a0 a8) (minB a1 a9) a2 a3 (c2_0,c2_1) [(0,3,false),(1,4,false),(2,5,false),(3,6,false),(4,7,true),(5,0,false),(6,1,false)] [(3,0,false),(4,1,false),(5,2,false),(6,3,false),(0,5,false),(1,6,false),(8,7,true)])) <|
   ww (ql6_ n a10 a4 a5 a6 a7 a8 a9 (maxB a0 a8) (minB a1 a9) a2 a3 (c2_0,c2_1) hc2) <|
   ww (qb_ qn_ a10 38) <|
   ww (qb_ qn_ c2_0 38) <|
   ww (qb_ qn_ c2_0 38) <|
   ee) (by kernel_rfl)

def qhw_ (a0:List (Int×Int×Int×Int))(a1:Nat)(a2:W8)(a3:NL)(a4:WL rw_iLii)(a5:NL)(a6 a7 a8 a9 a10 a11:Int)(r:List (Int×Int×Int×Int)×Nat):Value:=match r with
 | (o0,o1)=>(bO true)
def qhx_ (a0:List (Int×Int×Int×Int))(a1:Nat)(a2:W8)(a3:NL)(a4:WL rw_iLii)(a5:NL)(a6 a7 a8 a9 a10 a11:Int)(r:List (Int×Int×Int×Int)×Nat):AH:=match r with
 | (o0,o1)=>⟨sB [(0,(some (rblk P 25 [false,true,false,true,true] .ready none [(3,(pN 2 0)),(5,(pN 3 0)),(10,(Value.func (.func 45) #[] #[(pN 5 0)]))] 1))),(1,(some (.marks true))),(2,(cB [(Value.func (.func 27) #[] #[])] 71)),(3,(cB [(sN 7 0 o1 (Nat.add big 4))] 34)),(5,(cB [(pN 6 0)] 107)),(6,(cB [(wlV a2),(nlV a3),(wlV a4),(nlV a5),(i6 a6),(i6 a7)] 66)),(7,(cB (rows qm_ o0) 38))],8,0⟩
abbrev qoi_ (a0:List (Int×Int×Int×Int))(a1:Nat)(a2:W8)(a3:NL)(a4:WL rw_iLii)(a5:NL)(a6 a7 a8 a9 a10 a11:Int)(r:List (Int×Int×Int×Int)×Nat):Prop:=Gv P (.yield 0) [(Value.agg #[(i6 a8),(i6 a9),(i6 a10),(i6 a11)])] ⟨sB [(0,(some (rblk P 25 [false,true,false,true,true] .ready none [(3,(pN 2 0)),(5,(pN 3 0)),(10,(Value.func (.func 45) #[] #[(pN 5 0)]))] 1))),(1,(some (.marks true))),(2,(cB [(Value.func (.func 27) #[] #[])] 71)),(3,(cB [(sN 4 0 a1 (Nat.add big 4))] 34)),(4,(cB (rows qm_ a0) 38)),(5,(cB [(pN 6 0)] 107)),(6,(cB [(wlV a2),(nlV a3),(wlV a4),(nlV a5),(i6 a6),(i6 a7)] 66))],7,7⟩ (qhw_ a0 a1 a2 a3 a4 a5 a6 a7 a8 a9 a10 a11 r) (qhx_ a0 a1 a2 a3 a4 a5 a6 a7 a8 a9 a10 a11 r)
abbrev qoj_ (a0:List (Int×Int×Int×Int))(a1:Nat)(a2:W8)(a3:NL)(a4:WL rw_iLii)(a5:NL)(a6 a7 a8 a9 a10 a11:Int)(r:List (Int×Int×Int×Int)×Nat)(ins outs:BL):CallA:=⟨7,ins,qhw_ a0 a1 a2 a3 a4 a5 a6 a7 a8 a9 a10 a11 r,qhx_ a0 a1 a2 a3 a4 a5 a6 a7 a8 a9 a10 a11 r,outs⟩
def qcg_ (n:Nat)(a0:List (Int×Int×Int×Int))(a1:Nat)(a2:W8)(a3:NL)(a4:WL rw_iLii)(a5:NL)(a6 a7 a8 a9 a10 a11:Int):Option (List (Int×Int×Int×Int)×Nat):=
 if (w64 (((a1:Nat):Int)-1)) ≥ 0 then
  if 0≤(w64 (((a1:Nat):Int)-1))∧(w64 (((a1:Nat):Int)-1))<((a1:Nat):Int) then
   if ((w64 (((a1:Nat):Int)-1))).toNat<(a0).length then
    ((some ((a0).getD ((w64 (((a1:Nat):Int)-1))).toNat (0,0,0,0)))).bind fun c4_=>
    (qgm_ n (c4_.1) (c4_.2.1) (c4_.2.2.1) (c4_.2.2.2) a8 a9 a10 a11).bind fun t=>match t with
    | (c5_0,c5_1,c5_2,c5_3,c5_4)=>
     if c5_4=true then
      some (((a0).set ((w64 (((a1:Nat):Int)-1))).toNat (c5_0,c5_1,c5_2,c5_3)),a1)
     else
      if a1≤(a0).length then
       if (a1+1)*32≤140737488355328 then
        some (((List.take a1 a0) ++ [(a8,a9,a10,a11)]),((((List.take a1 a0) ++ [(a8,a9,a10,a11)])).length))
       else none
      else none
   else none
  else none
 else
  if a1≤(a0).length then
   if (a1+1)*32≤140737488355328 then
    some (((List.take a1 a0) ++ [(a8,a9,a10,a11)]),((((List.take a1 a0) ++ [(a8,a9,a10,a11)])).length))
   else none
  else none
theorem ql7_ (n:Nat)(a0:List (Int×Int×Int×Int))(a1:Nat)(a2:W8)(a3:NL)(a4:WL rw_iLii)(a5:NL)(a6 a7 a8 a9 a10 a11:Int)(r:List (Int×Int×Int×Int)×Nat)(h:qcg_ n a0 a1 a2 a3 a4 a5 a6 a7 a8 a9 a10 a11=some r):qoi_ a0 a1 a2 a3 a4 a5 a6 a7 a8 a9 a10 a11 r:=by
 unfold qcg_ at h
 by_cases hc1:(w64 (((a1:Nat):Int)-1)) ≥ 0
 ·rw[if_pos hc1] at h
  obtain⟨hc2,h⟩:=gd h
  obtain⟨hc3,h⟩:=gd h
  obtain⟨c4_,hc4,h⟩:=oB h
  obtain⟨⟨c5_0,c5_1,c5_2,c5_3,c5_4⟩,hc5,h⟩:=oB h
  dsimp only at h
  have k0:=fun {A L l} (k:PL A L l)=>zz 9 (xdT hc1) <|
   zz 15 (xk30 4 U4 hc2) <|
   yy 16 (.ld (Value.agg #[(i6 (c4_.1)),(i6 (c4_.2.1)),(i6 (c4_.2.2.1)),(i6 (c4_.2.2.2))])) <|
   ww (p:=rdT (layT (rows qm_ a0)) 4 (((w64 (((a1:Nat):Int)-1))).toNat*4)=some [(i6 (c4_.1)),(i6 (c4_.2.1)),(i6 (c4_.2.2.1)),(i6 (c4_.2.2.2))]) (rows_rdpN qn_ (0,0,0,0) (hr:=hc4) (i:=((w64 (((a1:Nat):Int)-1))).toNat) (j:=0) (((w64 (((a1:Nat):Int)-1))).toNat*4) rfl (hc3) (by decide) rfl) <|
   yy 18 (.call (qu0_ (c4_.1) (c4_.2.1) (c4_.2.2.1) (c4_.2.2.2) a8 a9 a10 a11 (c5_0,c5_1,c5_2,c5_3,c5_4) [] [(19,0,false)])) <|
   ww (qp9_ n (c4_.1) (c4_.2.1) (c4_.2.2.1) (c4_.2.2.2) a8 a9 a10 a11 (c5_0,c5_1,c5_2,c5_3,c5_4) hc5) <|
   k
  by_cases hc6:c5_4=true
  ·rw[if_pos hc6] at h
   obtain rfl:=oI h
   exact runY2 hm (kW [] [(0,0,false),(1,1,false),(2,2,false),(3,3,false),(5,5,false),(6,6,false),(7,4,true)] 8 0) (ee) (k0 <|
    zz 27 (xbT hc6) <|
    zz 32 (xk30 4 U4 hc2) <|
    z2 33 (ste (k:=4) (qxd_ qn_ (0,0,0,0) (i:=((w64 (((a1:Nat):Int)-1))).toNat) (j:=0) (l:=[(i6 c5_0),(i6 c5_1),(i6 c5_2),(i6 c5_3)]) (c5_0,c5_1,c5_2,c5_3) (((w64 (((a1:Nat):Int)-1))).toNat*4) rfl (hc3) (Nat.le_of_ble_eq_true rfl) rfl)) <|
    ww (qb_ qn_ ((a0).set ((w64 (((a1:Nat):Int)-1))).toNat (c5_0,c5_1,c5_2,c5_3)) 38) <|
    ee) (by kernel_rfl)
  ·rw[if_neg hc6] at h
   obtain⟨hc7,h⟩:=gd h
   obtain⟨hc8,h⟩:=gd h
   obtain rfl:=oI h
   obtain⟨za,zt,hz⟩:∃ a t,((List.take a1 a0) ++ [(a8,a9,a10,a11)])=a::t:=qvx_ (List.take a1 a0) (a8,a9,a10,a11)
   rw[hz]
   try rw[hz] at k0
   exact runY2 hm (kW [] [(0,0,false),(1,1,false),(2,2,false),(3,3,false),(5,5,false),(6,6,false),(7,21,true)] 8 0) (ee) (k0 <|
    zz 27 (xbF hc6) <|
    yy 31 (.app ⟨none,rows qm_ (List.take a1 a0),(rows qm_ (za::zt)),((za::zt)).length,false⟩) <|
    ww (p:=0<1) ((by decide)) <|
    ww (p:=rdT (layT (rows qm_ a0)) (Nat.mul a1 4) 0=some (rows qm_ (List.take a1 a0))) (qpp_ qn_ _ _ hc7) <|
    ww (p:=fits (Nat.add a1 1) 32=true) (ql8_ hc8 (by have:=hc8; show (_:Nat)+_≤_; omega)) <|
    ww (p:=qbn_ [(i6 a8),(i6 a9),(i6 a10),(i6 a11)]=true) (rfl) <|
    ww (p:=qbn_ (rows qm_ (List.take a1 a0))=true) (qlg_ qn_ _) <|
    ww (p:=rows qm_ (List.take a1 a0) ++ [(i6 a8),(i6 a9),(i6 a10),(i6 a11)]=(rows qm_ (za::zt))) (by rw[←hz]; exact (qu9_ qm_ (List.take a1 a0) [(a8,a9,a10,a11)])) <|
    ww (p:=Nat.add a1 1=((za::zt)).length) (by rw[←hz]; exact (qzl_ hc7 rfl)) <|
    ww (qb_ qn_ (za::zt) 38) <|
    ee) (by kernel_rfl)
 ·rw[if_neg hc1] at h
  obtain⟨hc2,h⟩:=gd h
  obtain⟨hc3,h⟩:=gd h
  obtain rfl:=oI h
  obtain⟨za,zt,hz⟩:∃ a t,((List.take a1 a0) ++ [(a8,a9,a10,a11)])=a::t:=qvx_ (List.take a1 a0) (a8,a9,a10,a11)
  rw[hz]
  exact runY2 hm (kW [] [(0,0,false),(1,1,false),(2,2,false),(3,3,false),(5,5,false),(6,6,false),(7,9,true)] 8 0) (ee) (zz 9 (xdF hc1) <|
   yy 14 (.app ⟨none,rows qm_ (List.take a1 a0),(rows qm_ (za::zt)),((za::zt)).length,false⟩) <|
   ww (p:=0<1) ((by decide)) <|
   ww (p:=rdT (layT (rows qm_ a0)) (Nat.mul a1 4) 0=some (rows qm_ (List.take a1 a0))) (qpp_ qn_ _ _ hc2) <|
   ww (p:=fits (Nat.add a1 1) 32=true) (ql8_ hc3 (by have:=hc3; show (_:Nat)+_≤_; omega)) <|
   ww (p:=qbn_ [(i6 a8),(i6 a9),(i6 a10),(i6 a11)]=true) (rfl) <|
   ww (p:=qbn_ (rows qm_ (List.take a1 a0))=true) (qlg_ qn_ _) <|
   ww (p:=rows qm_ (List.take a1 a0) ++ [(i6 a8),(i6 a9),(i6 a10),(i6 a11)]=(rows qm_ (za::zt))) (by rw[←hz]; exact (qu9_ qm_ (List.take a1 a0) [(a8,a9,a10,a11)])) <|
   ww (p:=Nat.add a1 1=((za::zt)).length) (by rw[←hz]; exact (qzl_ hc2 rfl)) <|
   ww (qb_ qn_ (za::zt) 38) <|
   ee) (by kernel_rfl)

def qij_ (a0 a1 a2 a3:Int)(a4:W8)(a5:NL)(a6:WL rw_iLii)(a7:NL)(a8 a9:Int)(a10:List (Int×Int×Int×Int))(a11:Nat)(r:List (Int×Int×Int×Int)×Nat):Value:=match r with
 | (o0,o1)=>(bO true)
def qik_ (a0 a1 a2 a3:Int)(a4:W8)(a5:NL)(a6:WL rw_iLii)(a7:NL)(a8 a9:Int)(a10:List (Int×Int×Int×Int))(a11:Nat)(r:List (Int×Int×Int×Int)×Nat):AH:=match r with
 | (o0,o1)=>⟨sB [(0,(cB [(pN 1 0)] 107)),(1,(cB [(wlV a4),(nlV a5),(wlV a6),(nlV a7),(i6 a8),(i6 a9)] 66)),(2,(cB [(Value.func (.yield 3) #[] #[])] 108)),(3,(some (rblk P 25 [false,true,false,true,true] .ready none [(3,(pN 5 0)),(5,(pN 6 0)),(10,(Value.func (.func 45) #[] #[(pN 0 0)]))] 4))),(4,(some (.marks true))),(5,(cB [(Value.func (.func 27) #[] #[])] 71)),(6,(cB [(sN 8 0 o1 (Nat.add big 4))] 34)),(8,(cB (rows qm_ o0) 38))],9,0⟩
abbrev qpc_ (a0 a1 a2 a3:Int)(a4:W8)(a5:NL)(a6:WL rw_iLii)(a7:NL)(a8 a9:Int)(a10:List (Int×Int×Int×Int))(a11:Nat)(r:List (Int×Int×Int×Int)×Nat):Prop:=Gv P (.func 46) [(i6 a0),(i6 a1),(i6 a2),(i6 a3),(pN 0 0),(pN 2 0)] ⟨sB [(0,(cB [(pN 1 0)] 107)),(1,(cB [(wlV a4),(nlV a5),(wlV a6),(nlV a7),(i6 a8),(i6 a9)] 66)),(2,(cB [(Value.func (.yield 3) #[] #[])] 108)),(3,(some (rblk P 25 [false,true,false,true,true] .ready none [(3,(pN 5 0)),(5,(pN 6 0)),(10,(Value.func (.func 45) #[] #[(pN 0 0)]))] 4))),(4,(some (.marks true))),(5,(cB [(Value.func (.func 27) #[] #[])] 71)),(6,(cB [(sN 7 0 a11 (Nat.add big 4))] 34)),(7,(cB (rows qm_ a10) 38))],8,8⟩ (qij_ a0 a1 a2 a3 a4 a5 a6 a7 a8 a9 a10 a11 r) (qik_ a0 a1 a2 a3 a4 a5 a6 a7 a8 a9 a10 a11 r)
abbrev qb0_ (a0 a1 a2 a3:Int)(a4:W8)(a5:NL)(a6:WL rw_iLii)(a7:NL)(a8 a9:Int)(a10:List (Int×Int×Int×Int))(a11:Nat)(r:List (Int×Int×Int×Int)×Nat)(ins outs:BL):CallA:=⟨8,ins,qij_ a0 a1 a2 a3 a4 a5 a6 a7 a8 a9 a10 a11 r,qik_ a0 a1 a2 a3 a4 a5 a6 a7 a8 a9 a10 a11 r,outs⟩
def qq_ (n:Nat)(a0 a1 a2 a3:Int)(a4:W8)(a5:NL)(a6:WL rw_iLii)(a7:NL)(a8 a9:Int)(a10:List (Int×Int×Int×Int))(a11:Nat):Option (List (Int×Int×Int×Int)×Nat):=
 if (maxB a0 a8) ≥ (minB a1 a9) then
  some (a10,a11)
 else
  (qcg_ n a10 a11 a4 a5 a6 a7 a8 a9 (maxB a0 a8) (minB a1 a9) a2 a3).bind fun t=>match t with
  | (c2_0,c2_1)=>
   some (c2_0,c2_1)
theorem qbl_ (n:Nat)(a0 a1 a2 a3:Int)(a4:W8)(a5:NL)(a6:WL rw_iLii)(a7:NL)(a8 a9:Int)(a10:List (Int×Int×Int×Int))(a11:Nat)(r:List (Int×Int×Int×Int)×Nat)(h:qq_ n a0 a1 a2 a3 a4 a5 a6 a7 a8 a9 a10 a11=some r):qpc_ a0 a1 a2 a3 a4 a5 a6 a7 a8 a9 a10 a11 r:=by
 unfold qq_ at h
 by_cases hc1:(maxB a0 a8) ≥ (minB a1 a9)
 ·rw[if_pos hc1] at h
  obtain rfl:=oI h
  exact runF2 hm (kW [10] [(0,0,false),(1,1,false),(2,2,false),(3,3,false),(4,4,false),(5,5,false),(6,6,false),(8,7,true)] 9 0) (zz 20 (xdT hc1) <|
   ww (qb_ qn_ a10 38) <|
   ee) (by kernel_rfl)
 ·rw[if_neg hc1] at h
  obtain⟨⟨c2_0,c2_1⟩,hc2,h⟩:=oB h
  dsimp only at h
  obtain rfl:=oI h
  exact runF2 hm (kW [10] [(0,0,false),(1,1,false),(2,2,false),(3,3,false),(4,4,false),(5,5,false),(6,6,false),(8,8,true)] 9 0) (zz 20 (xdF hc1) <|
   yy 28 (.call (qoj_ a10 a11 a4 a5 a6 a7 a8 a9 (maxB a0 a8) (minB a1 a9) a2 a3 (c2_0,c2_1) [(0,3,false),(1,4,false),(2,5,false),(3,6,false),(4,7,true),(5,0,false),(6,1,false)] [(3,0,false),(4,1,false),(5,2,false),(6,3,false),(0,5,false),(1,6,false),(8,7,true)])) <|
   ww (ql7_ n a10 a11 a4 a5 a6 a7 a8 a9 (maxB a0 a8) (minB a1 a9) a2 a3 (c2_0,c2_1) hc2) <|
   ww (qb_ qn_ a10 38) <|
   ww (qb_ qn_ c2_0 38) <|
   ww (qb_ qn_ c2_0 38) <|
   ee) (by kernel_rfl)

def qji_ (a0:W8)(a1:NL)(a2:WL rw_iLii)(a3:NL)(a4 a5:Int)(r:List (Int×Int×Int×Int)×Nat):Value:=match r with
 | (o0,o1)=>(Value.tuple #[])
def qjj_ (a0:W8)(a1:NL)(a2:WL rw_iLii)(a3:NL)(a4 a5:Int)(r:List (Int×Int×Int×Int)×Nat):AH:=match r with
 | (o0,o1)=>⟨sB [(0,(some (rblk P 25 [false,true,false,true,true] .ready none [(3,(pN 2 0)),(5,(pN 3 0)),(10,(Value.func (.func 45) #[] #[(pN 4 0)]))] 1))),(1,(some (.marks true))),(2,(cB [(Value.func (.func 27) #[] #[])] 71)),(3,(cB [(slQ o0 6 o1 4)] 34)),(4,(cB [(pN 5 0)] 107)),(5,(cB [(wlV a0),(nlV a1),(wlV a2),(nlV a3),(i6 a4),(i6 a5)] 66)),(6,(nblkR qm_ o0 38))],7,0⟩
abbrev qqa_ (a0:W8)(a1:NL)(a2:WL rw_iLii)(a3:NL)(a4 a5:Int)(r:List (Int×Int×Int×Int)×Nat):Prop:=Gv P (.func 45) [(Value.func (.yield 0) #[] #[]),(pN 4 0)] ⟨sB [(0,(some (rblk P 25 [false,true,false,true,true] .ready none [(3,(pN 2 0)),(5,(pN 3 0)),(10,(Value.func (.func 45) #[] #[(pN 4 0)]))] 1))),(1,(some (.marks true))),(2,(cB [(Value.func (.func 27) #[] #[])] 71)),(3,(cB [(Value.slice none 0 0)] 34)),(4,(cB [(pN 5 0)] 107)),(5,(cB [(wlV a0),(nlV a1),(wlV a2),(nlV a3),(i6 a4),(i6 a5)] 66))],6,6⟩ (qji_ a0 a1 a2 a3 a4 a5 r) (qjj_ a0 a1 a2 a3 a4 a5 r)
abbrev qqb_ (a0:W8)(a1:NL)(a2:WL rw_iLii)(a3:NL)(a4 a5:Int)(r:List (Int×Int×Int×Int)×Nat)(ins outs:BL):CallA:=⟨6,ins,qji_ a0 a1 a2 a3 a4 a5 r,qjj_ a0 a1 a2 a3 a4 a5 r,outs⟩
def qdm_ (x2:W8)(x3:NL)(x4:WL rw_iLii)(x5:NL)(x6 x7:Int)(x9:NL)(x10:Int)(st:List (Int×Int×Int×Int)×Nat×Int×Int):XSt:=match st with
 | (x0,x1,x8,x11)=>(sT 80 [(1,(pN 4 0)),(3,(Value.func (.func 46) #[] #[(pN 4 0),(pN 7 0)])),(4,(i6 x8)),(13,(nlV x9)),(14,(i6 x10)),(15,(i6 x11))],[],⟨sB [(0,(some (rblk P 25 [false,true,false,true,true] .ready none [(3,(pN 2 0)),(5,(pN 3 0)),(10,(Value.func (.func 45) #[] #[(pN 4 0)]))] 1))),(1,(some (.marks true))),(2,(cB [(Value.func (.func 27) #[] #[])] 71)),(3,(cB [(slQ x0 6 x1 4)] 34)),(4,(cB [(pN 5 0)] 107)),(5,(cB [(wlV x2),(nlV x3),(wlV x4),(nlV x5),(i6 x6),(i6 x7)] 66)),(6,(nblkR qm_ x0 38)),(7,(cB [(Value.func (.yield 0) #[] #[])] 108))],8,0⟩)
def qi_ (x2:W8)(x3:NL)(x4:WL rw_iLii)(x5:NL)(x6 x7:Int)(x9:NL)(x10:Int)(r:List (Int×Int×Int×Int)×Nat×Int):Ex×XSt:=match r with
 | (z0,z1,z2)=>(.exit 0,(sT 80 [(1,(pN 4 0)),(3,(Value.func (.func 46) #[] #[(pN 4 0),(pN 7 0)])),(4,(i6 z2))],[],⟨sB [(0,(some (rblk P 25 [false,true,false,true,true] .ready none [(3,(pN 2 0)),(5,(pN 3 0)),(10,(Value.func (.func 45) #[] #[(pN 4 0)]))] 1))),(1,(some (.marks true))),(2,(cB [(Value.func (.func 27) #[] #[])] 71)),(3,(cB [(slQ z0 6 z1 4)] 34)),(4,(cB [(pN 5 0)] 107)),(5,(cB [(wlV x2),(nlV x3),(wlV x4),(nlV x5),(i6 x6),(i6 x7)] 66)),(6,(nblkR qm_ z0 38)),(7,(cB [(Value.func (.yield 0) #[] #[])] 108))],8,0⟩))
abbrev qok_ (rnd:Option Nat)(x2:W8)(x3:NL)(x4:WL rw_iLii)(x5:NL)(x6 x7:Int)(x9:NL)(x10:Int)(st:List (Int×Int×Int×Int)×Nat×Int×Int)(c:Ex×XSt):Prop:=CG P rnd (fnN P 45) 6 (qx_ P 45 [false,false,true,false,true,true,true]) (qdm_ x2 x3 x4 x5 x6 x7 x9 x10 st) c
abbrev qol_ (rd:Option Nat)(x2:W8)(x3:NL)(x4:WL rw_iLii)(x5:NL)(x6 x7:Int)(x9:NL)(x10:Int)(st:List (Int×Int×Int×Int)×Nat×Int×Int)(r:List (Int×Int×Int×Int)×Nat×Int):Prop:=CG P rd (fnN P 45) 6 (qx_ P 45 [false,true,false,true,true,true]) (qdm_ x2 x3 x4 x5 x6 x7 x9 x10 st) (qi_ x2 x3 x4 x5 x6 x7 x9 x10 r)
def qt_ (n:Nat)(x2:W8)(x3:NL)(x4:WL rw_iLii)(x5:NL)(x6 x7:Int)(x9:NL)(x10:Int)(st:List (Int×Int×Int×Int)×Nat×Int×Int):Option ((List (Int×Int×Int×Int)×Nat×Int×Int) ⊕ (List (Int×Int×Int×Int)×Nat×Int)):=match st with
 | (x0,x1,x8,x11)=>
  match x0 with
  | []=>
   if x11<x10 then
    if 0≤x11∧x11<(((x9).l.length:Nat):Int) then
     if (x11).toNat<((x9).l).length then
      ((some (((x9).l).getD (x11).toNat 0))).bind fun y4_=>
      if 0≤y4_∧y4_<(((x2).l.length:Nat):Int) then
       ((some (((x2).l).getD (y4_).toNat (0,0,0,0,0,0,nl0,0)))).bind fun y6_=>
       (qv_ n x8 (y6_.2.2.1) 0 1 x2 x3 x4 x5 x6 x7).bind fun y7_=>
       match y7_ with
       | []=>
        if 0≤y4_∧y4_<(((x3).l.length:Nat):Int) then
         if (y4_).toNat<((x3).l).length then
          ((some (((x3).l).getD (y4_).toNat 0))).bind fun y10_=>
          (qv_ n (y6_.2.2.1) (y6_.2.2.2.1) 0 y10_ x2 x3 x4 x5 x6 x7).bind fun y11_=>
          match y11_ with
          | []=>
           (q4_ n x2 x3 x4 x5 x6 x7 y4_).bind fun y12_=>
           (qv_ n (y6_.2.2.2.1) (y6_.2.2.2.2.1) y12_ y10_ x2 x3 x4 x5 x6 x7).bind fun y13_=>
           match y13_ with
           | []=>
            some (.inl (([]:List (Int×Int×Int×Int)),0,(y6_.2.2.2.2.1),(w64 (x11+1))))
           | y1_13_a::y1_13_t=>
            some (.inl ((y1_13_a::y1_13_t),(((y1_13_a::y1_13_t)).length),(y6_.2.2.2.2.1),(w64 (x11+1))))
          | y1_11_a::y1_11_t=>
           (q4_ n x2 x3 x4 x5 x6 x7 y4_).bind fun y12_=>
           (qbz_ n (y6_.2.2.2.1) (y6_.2.2.2.2.1) y12_ y10_ x2 x3 x4 x5 x6 x7 (y1_11_a::y1_11_t)).bind fun t=>match t with
           | (y13_0,y13_1)=>
            match y13_0 with
            | []=>
             none
            | y13_0a::y13_0t=>
             some (.inl ((y13_0a::y13_0t),y13_1,(y6_.2.2.2.2.1),(w64 (x11+1))))
         else none
        else none
       | y1_7_a::y1_7_t=>
        if 0≤y4_∧y4_<(((x3).l.length:Nat):Int) then
         if (y4_).toNat<((x3).l).length then
          ((some (((x3).l).getD (y4_).toNat 0))).bind fun y10_=>
          (qbz_ n (y6_.2.2.1) (y6_.2.2.2.1) 0 y10_ x2 x3 x4 x5 x6 x7 (y1_7_a::y1_7_t)).bind fun t=>match t with
          | (y11_0,y11_1)=>
           match y11_0 with
           | []=>
            none
           | y11_0a::y11_0t=>
            (q4_ n x2 x3 x4 x5 x6 x7 y4_).bind fun y12_=>
            (qq_ n (y6_.2.2.2.1) (y6_.2.2.2.2.1) y12_ y10_ x2 x3 x4 x5 x6 x7 (y11_0a::y11_0t) y11_1).bind fun t=>match t with
            | (y13_0,y13_1)=>
             match y13_0 with
             | []=>
              none
             | y13_0a::y13_0t=>
              some (.inl ((y13_0a::y13_0t),y13_1,(y6_.2.2.2.2.1),(w64 (x11+1))))
         else none
        else none
      else none
     else none
    else none
   else
    some (.inr (([]:List (Int×Int×Int×Int)),0,x8))
  | x0a::x0t=>
   if x11<x10 then
    if 0≤x11∧x11<(((x9).l.length:Nat):Int) then
     if (x11).toNat<((x9).l).length then
      ((some (((x9).l).getD (x11).toNat 0))).bind fun y4_=>
      if 0≤y4_∧y4_<(((x2).l.length:Nat):Int) then
       ((some (((x2).l).getD (y4_).toNat (0,0,0,0,0,0,nl0,0)))).bind fun y6_=>
       (qq_ n x8 (y6_.2.2.1) 0 1 x2 x3 x4 x5 x6 x7 (x0a::x0t) x1).bind fun t=>match t with
       | (y7_0,y7_1)=>
        match y7_0 with
        | []=>
         none
        | y7_0a::y7_0t=>
         if 0≤y4_∧y4_<(((x3).l.length:Nat):Int) then
          if (y4_).toNat<((x3).l).length then
           ((some (((x3).l).getD (y4_).toNat 0))).bind fun y10_=>
           (qq_ n (y6_.2.2.1) (y6_.2.2.2.1) 0 y10_ x2 x3 x4 x5 x6 x7 (y7_0a::y7_0t) y7_1).bind fun t=>match t with
           | (y11_0,y11_1)=>
            match y11_0 with
            | []=>
             none
            | y11_0a::y11_0t=>
             (q4_ n x2 x3 x4 x5 x6 x7 y4_).bind fun y12_=>
             (qq_ n (y6_.2.2.2.1) (y6_.2.2.2.2.1) y12_ y10_ x2 x3 x4 x5 x6 x7 (y11_0a::y11_0t) y11_1).bind fun t=>match t with
             | (y13_0,y13_1)=>
              match y13_0 with
              | []=>
               none
              | y13_0a::y13_0t=>
               some (.inl ((y13_0a::y13_0t),y13_1,(y6_.2.2.2.2.1),(w64 (x11+1))))
          else none
         else none
      else none
     else none
    else none
   else
    some (.inr ((x0a::x0t),x1,x8))
def qdn_ (n:Nat)(x2:W8)(x3:NL)(x4:WL rw_iLii)(x5:NL)(x6 x7:Int)(x9:NL)(x10:Int)(st:List (Int×Int×Int×Int)×Nat×Int×Int):Option (List (Int×Int×Int×Int)×Nat×Int):=iterM (qt_ n x2 x3 x4 x5 x6 x7 x9 x10) n st
theorem qhy_ (n:Nat){rnd:Option Nat}(x2:W8)(x3:NL)(x4:WL rw_iLii)(x5:NL)(x6 x7:Int)(x9:NL)(x10:Int)(st:List (Int×Int×Int×Int)×Nat×Int×Int)(o:(List (Int×Int×Int×Int)×Nat×Int×Int) ⊕ (List (Int×Int×Int×Int)×Nat×Int))(h:qt_ n x2 x3 x4 x5 x6 x7 x9 x10 st=some o):qok_ rnd x2 x3 x4 x5 x6 x7 x9 x10 st (Sum.elim (fun s=>(.normal,qdm_ x2 x3 x4 x5 x6 x7 x9 x10 s)) (fun r=>qi_ x2 x3 x4 x5 x6 x7 x9 x10 r) o):=by
 obtain⟨x0,x1,x8,x11⟩:=st
 unfold qt_ at h
 dsimp only at h
 cases x0 with
 | nil=>
  dsimp only at h
  by_cases hy1:x11<x10
  ·rw[if_pos hy1] at h
   obtain⟨hy2,h⟩:=gd h
   obtain⟨hy3,h⟩:=gd h
   obtain⟨y4_,hy4,h⟩:=oB h
   obtain⟨hy5,h⟩:=gd h
   obtain⟨y6_,hy6,h⟩:=oB h
   obtain⟨y7_,hy7,h⟩:=oB h
   have k0:=fun {A L l} (k:PL A L l)=>zz 1 (xdT hy1) <|
    zz 7 (xk12 (Nat.add (x9).num 64) (x9).off (x9).cap hy2) <|
    zz 8 (nk13 hy4 hy3) <|
    zz 16 (xk1 (x2).num (x2).off (x2).cap hy5) <|
    zz 17 (lk2 hy6 (qw_ hy5)) <|
    k
   cases y7_ with
   | nil=>
    dsimp only at h
    obtain⟨hy8,h⟩:=gd h
    obtain⟨hy9,h⟩:=gd h
    obtain⟨y10_,hy10,h⟩:=oB h
    obtain⟨y11_,hy11,h⟩:=oB h
    have k5:=fun {A L l} (k:PL A L l)=>yy 26 (.call (qp_ x8 (y6_.2.2.1) 0 1 x2 x3 x4 x5 x6 x7 ([]:List (Int×Int×Int×Int)) [(0,4,false),(1,5,false),(2,7,false),(3,0,false),(4,1,false),(5,2,false),(6,3,false)] [(4,0,false),(5,1,false),(7,2,false),(0,3,false),(1,4,false),(2,5,false),(3,6,false)])) <|
     ww (qj_ n x8 (y6_.2.2.1) 0 1 x2 x3 x4 x5 x6 x7 ([]:List (Int×Int×Int×Int)) hy7) <|
     zz 39 (xk12 (Nat.add (x3).num 64) (x3).off (x3).cap hy8) <|
     zz 40 (nk13 hy10 hy9) <|
     k
    cases y11_ with
    | nil=>
     dsimp only at h
     obtain⟨y12_,hy12,h⟩:=oB h
     obtain⟨y13_,hy13,h⟩:=oB h
     have k9:=fun {A L l} (k:PL A L l)=>yy 41 (.call (qp_ (y6_.2.2.1) (y6_.2.2.2.1) 0 y10_ x2 x3 x4 x5 x6 x7 ([]:List (Int×Int×Int×Int)) [(0,4,false),(1,5,false),(2,7,false),(3,0,false),(4,1,false),(5,2,false),(6,3,false)] [(4,0,false),(5,1,false),(7,2,false),(0,3,false),(1,4,false),(2,5,false),(3,6,false)])) <|
      ww (qj_ n (y6_.2.2.1) (y6_.2.2.2.1) 0 y10_ x2 x3 x4 x5 x6 x7 ([]:List (Int×Int×Int×Int)) hy11) <|
      yy 52 (.call (qga_ x2 x3 x4 x5 x6 x7 y4_ y12_ [(0,5,false)] [])) <|
      ww (qe6_ n x2 x3 x4 x5 x6 x7 y4_ y12_ hy12) <|
      zz 58 (xk12 (Nat.add (x3).num 64) (x3).off (x3).cap hy8) <|
      zz 59 (nk13 hy10 hy9) <|
      k
     cases y13_ with
     | nil=>
      dsimp only at h
      obtain rfl:=oI h
      exact runC2 hm (kW [1,3,4,13,14,15] [(0,0,false),(1,1,false),(2,2,false),(3,3,false),(4,4,false),(5,5,false),(7,7,false)] 8 0) (k0 <|
       k5 <|
       k9 <|
       yy 60 (.call (qp_ (y6_.2.2.2.1) (y6_.2.2.2.2.1) y12_ y10_ x2 x3 x4 x5 x6 x7 ([]:List (Int×Int×Int×Int)) [(0,4,false),(1,5,false),(2,7,false),(3,0,false),(4,1,false),(5,2,false),(6,3,false)] [(4,0,false),(5,1,false),(7,2,false),(0,3,false),(1,4,false),(2,5,false),(3,6,false)])) <|
       ww (qj_ n (y6_.2.2.2.1) (y6_.2.2.2.2.1) y12_ y10_ x2 x3 x4 x5 x6 x7 ([]:List (Int×Int×Int×Int)) hy13) <|
       ee) (by kernel_rfl)
     | cons y1_13_a y1_13_t=>
      dsimp only at h
      obtain rfl:=oI h
      exact runC2 hm (kW [1,3,4,13,14,15] [(0,0,false),(1,1,false),(2,2,false),(3,3,false),(4,4,false),(5,5,false),(6,11,true),(7,7,false)] 8 0) (k0 <|
       k5 <|
       k9 <|
       yy 60 (.call (qp_ (y6_.2.2.2.1) (y6_.2.2.2.2.1) y12_ y10_ x2 x3 x4 x5 x6 x7 (y1_13_a::y1_13_t) [(0,4,false),(1,5,false),(2,7,false),(3,0,false),(4,1,false),(5,2,false),(6,3,false)] [(4,0,false),(5,1,false),(7,2,false),(0,3,false),(1,4,false),(2,5,false),(3,6,false),(11,7,true)])) <|
       ww (qj_ n (y6_.2.2.2.1) (y6_.2.2.2.2.1) y12_ y10_ x2 x3 x4 x5 x6 x7 (y1_13_a::y1_13_t) hy13) <|
       ww (qb_ qn_ (y1_13_a::y1_13_t) 38) <|
       ww (qb_ qn_ (y1_13_a::y1_13_t) 38) <|
       ee) (by kernel_rfl)
    | cons y1_11_a y1_11_t=>
     dsimp only at h
     obtain⟨y12_,hy12,h⟩:=oB h
     obtain⟨⟨y13_0,y13_1⟩,hy13,h⟩:=oB h
     dsimp only at h
     have k9:=fun {A L l} (k:PL A L l)=>yy 41 (.call (qp_ (y6_.2.2.1) (y6_.2.2.2.1) 0 y10_ x2 x3 x4 x5 x6 x7 (y1_11_a::y1_11_t) [(0,4,false),(1,5,false),(2,7,false),(3,0,false),(4,1,false),(5,2,false),(6,3,false)] [(4,0,false),(5,1,false),(7,2,false),(0,3,false),(1,4,false),(2,5,false),(3,6,false),(10,7,true)])) <|
      ww (qj_ n (y6_.2.2.1) (y6_.2.2.2.1) 0 y10_ x2 x3 x4 x5 x6 x7 (y1_11_a::y1_11_t) hy11) <|
      ww (qb_ qn_ (y1_11_a::y1_11_t) 38) <|
      yy 52 (.call (qga_ x2 x3 x4 x5 x6 x7 y4_ y12_ [(0,5,false)] [])) <|
      ww (qe6_ n x2 x3 x4 x5 x6 x7 y4_ y12_ hy12) <|
      zz 58 (xk12 (Nat.add (x3).num 64) (x3).off (x3).cap hy8) <|
      zz 59 (nk13 hy10 hy9) <|
      k
     cases y13_0 with
     | nil=>
      dsimp only at h
      cases h
     | cons y13_0a y13_0t=>
      dsimp only at h
      obtain rfl:=oI h
      exact runC2 hm (kW [1,3,4,13,14,15] [(0,0,false),(1,1,false),(2,2,false),(3,3,false),(4,4,false),(5,5,false),(6,11,true),(7,7,false)] 8 0) (k0 <|
       k5 <|
       k9 <|
       yy 60 (.call (qii_ (y6_.2.2.2.1) (y6_.2.2.2.2.1) y12_ y10_ x2 x3 x4 x5 x6 x7 (y1_11_a::y1_11_t) ((y13_0a::y13_0t),y13_1) [(0,4,false),(1,5,false),(2,7,false),(3,0,false),(4,1,false),(5,2,false),(6,3,false),(7,10,true)] [(4,0,false),(5,1,false),(7,2,false),(0,3,false),(1,4,false),(2,5,false),(3,6,false),(11,8,true)])) <|
       ww (qgy_ n (y6_.2.2.2.1) (y6_.2.2.2.2.1) y12_ y10_ x2 x3 x4 x5 x6 x7 (y1_11_a::y1_11_t) ((y13_0a::y13_0t),y13_1) hy13) <|
       ww (qb_ qn_ (y1_11_a::y1_11_t) 38) <|
       ww (qb_ qn_ (y13_0a::y13_0t) 38) <|
       ww (qb_ qn_ (y13_0a::y13_0t) 38) <|
       ee) (by kernel_rfl)
   | cons y1_7_a y1_7_t=>
    dsimp only at h
    obtain⟨hy8,h⟩:=gd h
    obtain⟨hy9,h⟩:=gd h
    obtain⟨y10_,hy10,h⟩:=oB h
    obtain⟨⟨y11_0,y11_1⟩,hy11,h⟩:=oB h
    dsimp only at h
    have k5:=fun {A L l} (k:PL A L l)=>yy 26 (.call (qp_ x8 (y6_.2.2.1) 0 1 x2 x3 x4 x5 x6 x7 (y1_7_a::y1_7_t) [(0,4,false),(1,5,false),(2,7,false),(3,0,false),(4,1,false),(5,2,false),(6,3,false)] [(4,0,false),(5,1,false),(7,2,false),(0,3,false),(1,4,false),(2,5,false),(3,6,false),(9,7,true)])) <|
     ww (qj_ n x8 (y6_.2.2.1) 0 1 x2 x3 x4 x5 x6 x7 (y1_7_a::y1_7_t) hy7) <|
     ww (qb_ qn_ (y1_7_a::y1_7_t) 38) <|
     zz 39 (xk12 (Nat.add (x3).num 64) (x3).off (x3).cap hy8) <|
     zz 40 (nk13 hy10 hy9) <|
     k
    cases y11_0 with
    | nil=>
     dsimp only at h
     cases h
    | cons y11_0a y11_0t=>
     dsimp only at h
     obtain⟨y12_,hy12,h⟩:=oB h
     obtain⟨⟨y13_0,y13_1⟩,hy13,h⟩:=oB h
     dsimp only at h
     have k10:=fun {A L l} (k:PL A L l)=>yy 41 (.call (qii_ (y6_.2.2.1) (y6_.2.2.2.1) 0 y10_ x2 x3 x4 x5 x6 x7 (y1_7_a::y1_7_t) ((y11_0a::y11_0t),y11_1) [(0,4,false),(1,5,false),(2,7,false),(3,0,false),(4,1,false),(5,2,false),(6,3,false),(7,9,true)] [(4,0,false),(5,1,false),(7,2,false),(0,3,false),(1,4,false),(2,5,false),(3,6,false),(10,8,true)])) <|
      ww (qgy_ n (y6_.2.2.1) (y6_.2.2.2.1) 0 y10_ x2 x3 x4 x5 x6 x7 (y1_7_a::y1_7_t) ((y11_0a::y11_0t),y11_1) hy11) <|
      ww (qb_ qn_ (y1_7_a::y1_7_t) 38) <|
      ww (qb_ qn_ (y11_0a::y11_0t) 38) <|
      yy 52 (.call (qga_ x2 x3 x4 x5 x6 x7 y4_ y12_ [(0,5,false)] [])) <|
      ww (qe6_ n x2 x3 x4 x5 x6 x7 y4_ y12_ hy12) <|
      zz 58 (xk12 (Nat.add (x3).num 64) (x3).off (x3).cap hy8) <|
      zz 59 (nk13 hy10 hy9) <|
      k
     cases y13_0 with
     | nil=>
      dsimp only at h
      cases h
     | cons y13_0a y13_0t=>
      dsimp only at h
      obtain rfl:=oI h
      exact runC2 hm (kW [1,3,4,13,14,15] [(0,0,false),(1,1,false),(2,2,false),(3,3,false),(4,4,false),(5,5,false),(6,11,true),(7,7,false)] 8 0) (k0 <|
       k5 <|
       k10 <|
       yy 60 (.call (qb0_ (y6_.2.2.2.1) (y6_.2.2.2.2.1) y12_ y10_ x2 x3 x4 x5 x6 x7 (y11_0a::y11_0t) y11_1 ((y13_0a::y13_0t),y13_1) [(0,4,false),(1,5,false),(2,7,false),(3,0,false),(4,1,false),(5,2,false),(6,3,false),(7,10,true)] [(4,0,false),(5,1,false),(7,2,false),(0,3,false),(1,4,false),(2,5,false),(3,6,false),(11,8,true)])) <|
       ww (qbl_ n (y6_.2.2.2.1) (y6_.2.2.2.2.1) y12_ y10_ x2 x3 x4 x5 x6 x7 (y11_0a::y11_0t) y11_1 ((y13_0a::y13_0t),y13_1) hy13) <|
       ww (qb_ qn_ (y11_0a::y11_0t) 38) <|
       ww (qb_ qn_ (y13_0a::y13_0t) 38) <|
       ww (qb_ qn_ (y13_0a::y13_0t) 38) <|
       ee) (by kernel_rfl)
  ·rw[if_neg hy1] at h
   obtain rfl:=oI h
   exact runC2 hm (kW [1,3,4] [(0,0,false),(1,1,false),(2,2,false),(3,3,false),(4,4,false),(5,5,false),(7,7,false)] 8 0) (zz 1 (xdF hy1) <|
    ee) (by kernel_rfl)
 | cons x0a x0t=>
  dsimp only at h
  by_cases hy1:x11<x10
  ·rw[if_pos hy1] at h
   obtain⟨hy2,h⟩:=gd h
   obtain⟨hy3,h⟩:=gd h
   obtain⟨y4_,hy4,h⟩:=oB h
   obtain⟨hy5,h⟩:=gd h
   obtain⟨y6_,hy6,h⟩:=oB h
   obtain⟨⟨y7_0,y7_1⟩,hy7,h⟩:=oB h
   dsimp only at h
   have k0:=fun {A L l} (k:PL A L l)=>zz 1 (xdT hy1) <|
    zz 7 (xk12 (Nat.add (x9).num 64) (x9).off (x9).cap hy2) <|
    zz 8 (nk13 hy4 hy3) <|
    zz 16 (xk1 (x2).num (x2).off (x2).cap hy5) <|
    zz 17 (lk2 hy6 (qw_ hy5)) <|
    k
   cases y7_0 with
   | nil=>
    dsimp only at h
    cases h
   | cons y7_0a y7_0t=>
    dsimp only at h
    obtain⟨hy8,h⟩:=gd h
    obtain⟨hy9,h⟩:=gd h
    obtain⟨y10_,hy10,h⟩:=oB h
    obtain⟨⟨y11_0,y11_1⟩,hy11,h⟩:=oB h
    dsimp only at h
    have k5:=fun {A L l} (k:PL A L l)=>yy 26 (.call (qb0_ x8 (y6_.2.2.1) 0 1 x2 x3 x4 x5 x6 x7 (x0a::x0t) x1 ((y7_0a::y7_0t),y7_1) [(0,4,false),(1,5,false),(2,7,false),(3,0,false),(4,1,false),(5,2,false),(6,3,false),(7,6,true)] [(4,0,false),(5,1,false),(7,2,false),(0,3,false),(1,4,false),(2,5,false),(3,6,false),(9,8,true)])) <|
     ww (qbl_ n x8 (y6_.2.2.1) 0 1 x2 x3 x4 x5 x6 x7 (x0a::x0t) x1 ((y7_0a::y7_0t),y7_1) hy7) <|
     ww (qb_ qn_ (x0a::x0t) 38) <|
     ww (qb_ qn_ (y7_0a::y7_0t) 38) <|
     zz 39 (xk12 (Nat.add (x3).num 64) (x3).off (x3).cap hy8) <|
     zz 40 (nk13 hy10 hy9) <|
     k
    cases y11_0 with
    | nil=>
     dsimp only at h
     cases h
    | cons y11_0a y11_0t=>
     dsimp only at h
     obtain⟨y12_,hy12,h⟩:=oB h
     obtain⟨⟨y13_0,y13_1⟩,hy13,h⟩:=oB h
     dsimp only at h
     have k11:=fun {A L l} (k:PL A L l)=>yy 41 (.call (qb0_ (y6_.2.2.1) (y6_.2.2.2.1) 0 y10_ x2 x3 x4 x5 x6 x7 (y7_0a::y7_0t) y7_1 ((y11_0a::y11_0t),y11_1) [(0,4,false),(1,5,false),(2,7,false),(3,0,false),(4,1,false),(5,2,false),(6,3,false),(7,9,true)] [(4,0,false),(5,1,false),(7,2,false),(0,3,false),(1,4,false),(2,5,false),(3,6,false),(10,8,true)])) <|
      ww (qbl_ n (y6_.2.2.1) (y6_.2.2.2.1) 0 y10_ x2 x3 x4 x5 x6 x7 (y7_0a::y7_0t) y7_1 ((y11_0a::y11_0t),y11_1) hy11) <|
      ww (qb_ qn_ (y7_0a::y7_0t) 38) <|
      ww (qb_ qn_ (y11_0a::y11_0t) 38) <|
      yy 52 (.call (qga_ x2 x3 x4 x5 x6 x7 y4_ y12_ [(0,5,false)] [])) <|
      ww (qe6_ n x2 x3 x4 x5 x6 x7 y4_ y12_ hy12) <|
      zz 58 (xk12 (Nat.add (x3).num 64) (x3).off (x3).cap hy8) <|
      zz 59 (nk13 hy10 hy9) <|
      k
     cases y13_0 with
     | nil=>
      dsimp only at h
      cases h
     | cons y13_0a y13_0t=>
      dsimp only at h
      obtain rfl:=oI h
      exact runC2 hm (kW [1,3,4,13,14,15] [(0,0,false),(1,1,false),(2,2,false),(3,3,false),(4,4,false),(5,5,false),(6,11,true),(7,7,false)] 8 0) (k0 <|
       k5 <|
       k11 <|
       yy 60 (.call (qb0_ (y6_.2.2.2.1) (y6_.2.2.2.2.1) y12_ y10_ x2 x3 x4 x5 x6 x7 (y11_0a::y11_0t) y11_1 ((y13_0a::y13_0t),y13_1) [(0,4,false),(1,5,false),(2,7,false),(3,0,false),(4,1,false),(5,2,false),(6,3,false),(7,10,true)] [(4,0,false),(5,1,false),(7,2,false),(0,3,false),(1,4,false),(2,5,false),(3,6,false),(11,8,true)])) <|
       ww (qbl_ n (y6_.2.2.2.1) (y6_.2.2.2.2.1) y12_ y10_ x2 x3 x4 x5 x6 x7 (y11_0a::y11_0t) y11_1 ((y13_0a::y13_0t),y13_1) hy13) <|
       ww (qb_ qn_ (y11_0a::y11_0t) 38) <|
       ww (qb_ qn_ (y13_0a::y13_0t) 38) <|
       ww (qb_ qn_ (y13_0a::y13_0t) 38) <|
       ee) (by kernel_rfl)
  ·rw[if_neg hy1] at h
   obtain rfl:=oI h
   exact runC2 hm (kW [1,3,4] [(0,0,false),(1,1,false),(2,2,false),(3,3,false),(4,4,false),(5,5,false),(6,6,true),(7,7,false)] 8 0) (zz 1 (xdF hy1) <|
    ww (qb_ qn_ (x0a::x0t) 38) <|
    ee) (by kernel_rfl)
theorem qcr_ (n:Nat){rnd:Option Nat}(x2:W8)(x3:NL)(x4:WL rw_iLii)(x5:NL)(x6 x7:Int)(x9:NL)(x10:Int)(st:List (Int×Int×Int×Int)×Nat×Int×Int)(r:List (Int×Int×Int×Int)×Nat×Int)(h:qdn_ n x2 x3 x4 x5 x6 x7 x9 x10 st=some r):qol_ rnd x2 x3 x4 x5 x6 x7 x9 x10 st r:=
 CG.iter (b:=qx_ P 45 [false,false,true,false,true,true,true]) (by kernel_rfl) (body:=qt_ n x2 x3 x4 x5 x6 x7 x9 x10) (S:=qdm_ x2 x3 x4 x5 x6 x7 x9 x10) (X:=qi_ x2 x3 x4 x5 x6 x7 x9 x10)
  (fun s s' h=>qhy_ n x2 x3 x4 x5 x6 x7 x9 x10 s (.inl s') h)
  (fun s r h=>qhy_ n x2 x3 x4 x5 x6 x7 x9 x10 s (.inr r) h)
  (fun r=>by intro hx; cases hx) h
def qcw_ (n:Nat)(a0:W8)(a1:NL)(a2:WL rw_iLii)(a3:NL)(a4 a5:Int):Option (List (Int×Int×Int×Int)×Nat):=
 match qhh_ n a0 with
 | none=>none
 | some (.inl c1_)=>
  (qdn_ n a0 a1 a2 a3 a4 a5 c1_ (((c1_).l.length:Nat):Int) (([]:List (Int×Int×Int×Int)),0,0,0)).bind fun t=>match t with
  | (c2_0,c2_1,c2_2)=>
   match c2_0 with
   | []=>
    if 0≤(0:Int)∧(0:Int)<(((a0).l.length:Nat):Int) then
     ((some (((a0).l).getD ((0:Int)).toNat (0,0,0,0,0,0,nl0,0)))).bind fun c4_=>
     (qv_ n c2_2 (c4_.2.2.2.2.1) 0 1 a0 a1 a2 a3 a4 a5).bind fun c5_=>
     match c5_ with
     | []=>
      some (([]:List (Int×Int×Int×Int)),0)
     | c5_a::c5_t=>
      some ((c5_a::c5_t),(((c5_a::c5_t)).length))
    else none
   | c2_0a::c2_0t=>
    if 0≤(0:Int)∧(0:Int)<(((a0).l.length:Nat):Int) then
     ((some (((a0).l).getD ((0:Int)).toNat (0,0,0,0,0,0,nl0,0)))).bind fun c4_=>
     (qq_ n c2_2 (c4_.2.2.2.2.1) 0 1 a0 a1 a2 a3 a4 a5 (c2_0a::c2_0t) c2_1).bind fun t=>match t with
     | (c5_0,c5_1)=>
      match c5_0 with
      | []=>
       none
      | c5_0a::c5_0t=>
       some ((c5_0a::c5_0t),c5_1)
    else none
 | some (.inr _)=>
  (qdn_ n a0 a1 a2 a3 a4 a5 nl0 (((nl0).l.length:Nat):Int) (([]:List (Int×Int×Int×Int)),0,0,0)).bind fun t=>match t with
  | (c2_0,c2_1,c2_2)=>
   match c2_0 with
   | []=>
    if 0≤(0:Int)∧(0:Int)<(((a0).l.length:Nat):Int) then
     ((some (((a0).l).getD ((0:Int)).toNat (0,0,0,0,0,0,nl0,0)))).bind fun c4_=>
     (qv_ n c2_2 (c4_.2.2.2.2.1) 0 1 a0 a1 a2 a3 a4 a5).bind fun c5_=>
     match c5_ with
     | []=>
      some (([]:List (Int×Int×Int×Int)),0)
     | c5_a::c5_t=>
      some ((c5_a::c5_t),(((c5_a::c5_t)).length))
    else none
   | c2_0a::c2_0t=>
    if 0≤(0:Int)∧(0:Int)<(((a0).l.length:Nat):Int) then
     ((some (((a0).l).getD ((0:Int)).toNat (0,0,0,0,0,0,nl0,0)))).bind fun c4_=>
     (qq_ n c2_2 (c4_.2.2.2.2.1) 0 1 a0 a1 a2 a3 a4 a5 (c2_0a::c2_0t) c2_1).bind fun t=>match t with
     | (c5_0,c5_1)=>
      match c5_0 with
      | []=>
       none
      | c5_0a::c5_0t=>
       some ((c5_0a::c5_0t),c5_1)
    else none
theorem qnz_ (n:Nat)(a0:W8)(a1:NL)(a2:WL rw_iLii)(a3:NL)(a4 a5:Int)(r:List (Int×Int×Int×Int)×Nat)(h:qcw_ n a0 a1 a2 a3 a4 a5=some r):qqa_ a0 a1 a2 a3 a4 a5 r:=by
 unfold qcw_ at h
 rcases hc1:qhh_ n a0 with _ | (c1_ | ⟨⟩)
 ·rw[hc1] at h; cases h
 ·rw[hc1] at h
  dsimp only at h
  obtain⟨⟨c2_0,c2_1,c2_2⟩,hc2,h⟩:=oB h
  dsimp only at h
  have k0:=fun {A L l} (k:PL A L l)=>yy 13 (.call (qv7_ a0 (.inl c1_) [] [])) <|
   ww (qrq_ n a0 (.inl c1_) hc1) <|
   k
  cases c2_0 with
  | nil=>
   dsimp only at h
   obtain⟨hc3,h⟩:=gd h
   obtain⟨c4_,hc4,h⟩:=oB h
   obtain⟨c5_,hc5,h⟩:=oB h
   have k2:=fun {A L l} (k:PL A L l)=>ww (qcr_ n (rnd:=none) a0 a1 a2 a3 a4 a5 c1_ (((c1_).l.length:Nat):Int) (([]:List (Int×Int×Int×Int)),0,0,0) (([]:List (Int×Int×Int×Int)),c2_1,c2_2) hc2) <|
    ll 17 ⟨(kW [1,3,4,13,14,15] [(0,0,false),(1,1,false),(2,2,false),(3,3,false),(4,4,false),(5,5,false),(7,6,false)] 8 0),(qi_ a0 a1 a2 a3 a4 a5 c1_ (((c1_).l.length:Nat):Int) (([]:List (Int×Int×Int×Int)),c2_1,c2_2)).1,(qi_ a0 a1 a2 a3 a4 a5 c1_ (((c1_).l.length:Nat):Int) (([]:List (Int×Int×Int×Int)),c2_1,c2_2)).2⟩ <|
    zz 24 (xk1 (a0).num (a0).off (a0).cap hc3) <|
    zz 25 (fk14 (a0).num (Nat.add (a0).off (((0:Int)).toNat*8))) <|
    zz 26 (lk15 hc4 (qw_ hc3)) <|
    k
   cases c5_ with
   | nil=>
    dsimp only at h
    obtain rfl:=oI h
    exact runF2 hm (kW [] (iD 6) 7 0) (k0 <|
     k2 <|
     yy 27 (.call (qp_ c2_2 (c4_.2.2.2.2.1) 0 1 a0 a1 a2 a3 a4 a5 ([]:List (Int×Int×Int×Int)) [(0,4,false),(1,5,false),(2,7,false),(3,0,false),(4,1,false),(5,2,false),(6,3,false)] [(4,0,false),(5,1,false),(7,2,false),(0,3,false),(1,4,false),(2,5,false),(3,6,false)])) <|
     ww (qj_ n c2_2 (c4_.2.2.2.2.1) 0 1 a0 a1 a2 a3 a4 a5 ([]:List (Int×Int×Int×Int)) hc5) <|
     ee) (by kernel_rfl)
   | cons c5_a c5_t=>
    dsimp only at h
    obtain rfl:=oI h
    exact runF2 hm (kW [] [(0,0,false),(1,1,false),(2,2,false),(3,3,false),(4,4,false),(5,5,false),(6,8,true)] 7 0) (k0 <|
     k2 <|
     yy 27 (.call (qp_ c2_2 (c4_.2.2.2.2.1) 0 1 a0 a1 a2 a3 a4 a5 (c5_a::c5_t) [(0,4,false),(1,5,false),(2,7,false),(3,0,false),(4,1,false),(5,2,false),(6,3,false)] [(4,0,false),(5,1,false),(7,2,false),(0,3,false),(1,4,false),(2,5,false),(3,6,false),(8,7,true)])) <|
     ww (qj_ n c2_2 (c4_.2.2.2.2.1) 0 1 a0 a1 a2 a3 a4 a5 (c5_a::c5_t) hc5) <|
     ww (qb_ qn_ (c5_a::c5_t) 38) <|
     ww (qb_ qn_ (c5_a::c5_t) 38) <|
     ee) (by kernel_rfl)
  | cons c2_0a c2_0t=>
   dsimp only at h
   obtain⟨hc3,h⟩:=gd h
   obtain⟨c4_,hc4,h⟩:=oB h
   obtain⟨⟨c5_0,c5_1⟩,hc5,h⟩:=oB h
   dsimp only at h
   have k2:=fun {A L l} (k:PL A L l)=>ww (qcr_ n (rnd:=none) a0 a1 a2 a3 a4 a5 c1_ (((c1_).l.length:Nat):Int) (([]:List (Int×Int×Int×Int)),0,0,0) ((c2_0a::c2_0t),c2_1,c2_2) hc2) <|
    ll 17 ⟨(kW [1,3,4,13,14,15] [(0,0,false),(1,1,false),(2,2,false),(3,3,false),(4,4,false),(5,5,false),(7,6,false)] 8 0),(qi_ a0 a1 a2 a3 a4 a5 c1_ (((c1_).l.length:Nat):Int) ((c2_0a::c2_0t),c2_1,c2_2)).1,(qi_ a0 a1 a2 a3 a4 a5 c1_ (((c1_).l.length:Nat):Int) ((c2_0a::c2_0t),c2_1,c2_2)).2⟩ <|
    zz 24 (xk1 (a0).num (a0).off (a0).cap hc3) <|
    zz 25 (fk14 (a0).num (Nat.add (a0).off (((0:Int)).toNat*8))) <|
    zz 26 (lk15 hc4 (qw_ hc3)) <|
    k
   cases c5_0 with
   | nil=>
    dsimp only at h
    cases h
   | cons c5_0a c5_0t=>
    dsimp only at h
    obtain rfl:=oI h
    exact runF2 hm (kW [] [(0,0,false),(1,1,false),(2,2,false),(3,3,false),(4,4,false),(5,5,false),(6,8,true)] 7 0) (k0 <|
     k2 <|
     yy 27 (.call (qb0_ c2_2 (c4_.2.2.2.2.1) 0 1 a0 a1 a2 a3 a4 a5 (c2_0a::c2_0t) c2_1 ((c5_0a::c5_0t),c5_1) [(0,4,false),(1,5,false),(2,7,false),(3,0,false),(4,1,false),(5,2,false),(6,3,false),(7,6,true)] [(4,0,false),(5,1,false),(7,2,false),(0,3,false),(1,4,false),(2,5,false),(3,6,false),(8,8,true)])) <|
     ww (qbl_ n c2_2 (c4_.2.2.2.2.1) 0 1 a0 a1 a2 a3 a4 a5 (c2_0a::c2_0t) c2_1 ((c5_0a::c5_0t),c5_1) hc5) <|
     ww (qb_ qn_ (c2_0a::c2_0t) 38) <|
     ww (qb_ qn_ (c5_0a::c5_0t) 38) <|
     ww (qb_ qn_ (c5_0a::c5_0t) 38) <|
     ee) (by kernel_rfl)
 ·rw[hc1] at h
  dsimp only at h
  obtain⟨⟨c2_0,c2_1,c2_2⟩,hc2,h⟩:=oB h
  dsimp only at h
  have k0:=fun {A L l} (k:PL A L l)=>yy 13 (.call (qv7_ a0 (.inr ()) [] [])) <|
   ww (qrq_ n a0 (.inr ()) hc1) <|
   k
  cases c2_0 with
  | nil=>
   dsimp only at h
   obtain⟨hc3,h⟩:=gd h
   obtain⟨c4_,hc4,h⟩:=oB h
   obtain⟨c5_,hc5,h⟩:=oB h
   have k2:=fun {A L l} (k:PL A L l)=>ww (qcr_ n (rnd:=none) a0 a1 a2 a3 a4 a5 nl0 (((nl0).l.length:Nat):Int) (([]:List (Int×Int×Int×Int)),0,0,0) (([]:List (Int×Int×Int×Int)),c2_1,c2_2) hc2) <|
    ll 17 ⟨(kW [1,3,4,13,14,15] [(0,0,false),(1,1,false),(2,2,false),(3,3,false),(4,4,false),(5,5,false),(7,6,false)] 8 0),(qi_ a0 a1 a2 a3 a4 a5 nl0 (((nl0).l.length:Nat):Int) (([]:List (Int×Int×Int×Int)),c2_1,c2_2)).1,(qi_ a0 a1 a2 a3 a4 a5 nl0 (((nl0).l.length:Nat):Int) (([]:List (Int×Int×Int×Int)),c2_1,c2_2)).2⟩ <|
    zz 24 (xk1 (a0).num (a0).off (a0).cap hc3) <|
    zz 25 (fk14 (a0).num (Nat.add (a0).off (((0:Int)).toNat*8))) <|
    zz 26 (lk15 hc4 (qw_ hc3)) <|
    k
   cases c5_ with
   | nil=>
    dsimp only at h
    obtain rfl:=oI h
    exact runF2 hm (kW [] (iD 6) 7 0) (k0 <|
     k2 <|
     yy 27 (.call (qp_ c2_2 (c4_.2.2.2.2.1) 0 1 a0 a1 a2 a3 a4 a5 ([]:List (Int×Int×Int×Int)) [(0,4,false),(1,5,false),(2,7,false),(3,0,false),(4,1,false),(5,2,false),(6,3,false)] [(4,0,false),(5,1,false),(7,2,false),(0,3,false),(1,4,false),(2,5,false),(3,6,false)])) <|
     ww (qj_ n c2_2 (c4_.2.2.2.2.1) 0 1 a0 a1 a2 a3 a4 a5 ([]:List (Int×Int×Int×Int)) hc5) <|
     ee) (by kernel_rfl)
   | cons c5_a c5_t=>
    dsimp only at h
    obtain rfl:=oI h
    exact runF2 hm (kW [] [(0,0,false),(1,1,false),(2,2,false),(3,3,false),(4,4,false),(5,5,false),(6,8,true)] 7 0) (k0 <|
     k2 <|
     yy 27 (.call (qp_ c2_2 (c4_.2.2.2.2.1) 0 1 a0 a1 a2 a3 a4 a5 (c5_a::c5_t) [(0,4,false),(1,5,false),(2,7,false),(3,0,false),(4,1,false),(5,2,false),(6,3,false)] [(4,0,false),(5,1,false),(7,2,false),(0,3,false),(1,4,false),(2,5,false),(3,6,false),(8,7,true)])) <|
     ww (qj_ n c2_2 (c4_.2.2.2.2.1) 0 1 a0 a1 a2 a3 a4 a5 (c5_a::c5_t) hc5) <|
     ww (qb_ qn_ (c5_a::c5_t) 38) <|
     ww (qb_ qn_ (c5_a::c5_t) 38) <|
     ee) (by kernel_rfl)
  | cons c2_0a c2_0t=>
   dsimp only at h
   obtain⟨hc3,h⟩:=gd h
   obtain⟨c4_,hc4,h⟩:=oB h
   obtain⟨⟨c5_0,c5_1⟩,hc5,h⟩:=oB h
   dsimp only at h
   have k2:=fun {A L l} (k:PL A L l)=>ww (qcr_ n (rnd:=none) a0 a1 a2 a3 a4 a5 nl0 (((nl0).l.length:Nat):Int) (([]:List (Int×Int×Int×Int)),0,0,0) ((c2_0a::c2_0t),c2_1,c2_2) hc2) <|
    ll 17 ⟨(kW [1,3,4,13,14,15] [(0,0,false),(1,1,false),(2,2,false),(3,3,false),(4,4,false),(5,5,false),(7,6,false)] 8 0),(qi_ a0 a1 a2 a3 a4 a5 nl0 (((nl0).l.length:Nat):Int) ((c2_0a::c2_0t),c2_1,c2_2)).1,(qi_ a0 a1 a2 a3 a4 a5 nl0 (((nl0).l.length:Nat):Int) ((c2_0a::c2_0t),c2_1,c2_2)).2⟩ <|
    zz 24 (xk1 (a0).num (a0).off (a0).cap hc3) <|
    zz 25 (fk14 (a0).num (Nat.add (a0).off (((0:Int)).toNat*8))) <|
    zz 26 (lk15 hc4 (qw_ hc3)) <|
    k
   cases c5_0 with
   | nil=>
    dsimp only at h
    cases h
   | cons c5_0a c5_0t=>
    dsimp only at h
    obtain rfl:=oI h
    exact runF2 hm (kW [] [(0,0,false),(1,1,false),(2,2,false),(3,3,false),(4,4,false),(5,5,false),(6,8,true)] 7 0) (k0 <|
     k2 <|
     yy 27 (.call (qb0_ c2_2 (c4_.2.2.2.2.1) 0 1 a0 a1 a2 a3 a4 a5 (c2_0a::c2_0t) c2_1 ((c5_0a::c5_0t),c5_1) [(0,4,false),(1,5,false),(2,7,false),(3,0,false),(4,1,false),(5,2,false),(6,3,false),(7,6,true)] [(4,0,false),(5,1,false),(7,2,false),(0,3,false),(1,4,false),(2,5,false),(3,6,false),(8,8,true)])) <|
     ww (qbl_ n c2_2 (c4_.2.2.2.2.1) 0 1 a0 a1 a2 a3 a4 a5 (c2_0a::c2_0t) c2_1 ((c5_0a::c5_0t),c5_1) hc5) <|
     ww (qb_ qn_ (c2_0a::c2_0t) 38) <|
     ww (qb_ qn_ (c5_0a::c5_0t) 38) <|
     ww (qb_ qn_ (c5_0a::c5_0t) 38) <|
     ee) (by kernel_rfl)

def qmq_ (a0:W8)(a1:NL)(a2:WL rw_iLii)(a3:NL)(a4 a5:Int)(r:List (Int×Int×Int×Int)×Nat):Value:=match r with
 | (o0,o1)=>(sN 3 0 o1 (Nat.add big 4))
def qmr_ (a0:W8)(a1:NL)(a2:WL rw_iLii)(a3:NL)(a4 a5:Int)(r:List (Int×Int×Int×Int)×Nat):AH:=match r with
 | (o0,o1)=>⟨sB [(0,(cB [(pN 1 0)] 107)),(1,(cB [(wlV a0),(nlV a1),(wlV a2),(nlV a3),(i6 a4),(i6 a5)] 66)),(2,(some (.marks false))),(3,(cB (rows qm_ o0) 38))],4,0⟩
abbrev qt5_ (a0:W8)(a1:NL)(a2:WL rw_iLii)(a3:NL)(a4 a5:Int)(r:List (Int×Int×Int×Int)×Nat):Prop:=Gv P (.func 25) [(Value.func (.func 45) #[] #[(pN 0 0)]),(Value.func (.func 27) #[] #[])] ⟨sB [(0,(cB [(pN 1 0)] 107)),(1,(cB [(wlV a0),(nlV a1),(wlV a2),(nlV a3),(i6 a4),(i6 a5)] 66))],2,2⟩ (qmq_ a0 a1 a2 a3 a4 a5 r) (qmr_ a0 a1 a2 a3 a4 a5 r)
abbrev qt6_ (a0:W8)(a1:NL)(a2:WL rw_iLii)(a3:NL)(a4 a5:Int)(r:List (Int×Int×Int×Int)×Nat)(ins outs:BL):CallA:=⟨2,ins,qmq_ a0 a1 a2 a3 a4 a5 r,qmr_ a0 a1 a2 a3 a4 a5 r,outs⟩
def qel_ (n:Nat)(a0:W8)(a1:NL)(a2:WL rw_iLii)(a3:NL)(a4 a5:Int):Option (List (Int×Int×Int×Int)×Nat):=
 (qcw_ n a0 a1 a2 a3 a4 a5).bind fun t=>match t with
 | (c1_0,c1_1)=>
  match c1_0 with
  | []=>
   none
  | c1_0a::c1_0t=>
   some ((c1_0a::c1_0t),c1_1)
theorem qrc_ (n:Nat)(a0:W8)(a1:NL)(a2:WL rw_iLii)(a3:NL)(a4 a5:Int)(r:List (Int×Int×Int×Int)×Nat)(h:qel_ n a0 a1 a2 a3 a4 a5=some r):qt5_ a0 a1 a2 a3 a4 a5 r:=by
 unfold qel_ at h
 obtain⟨⟨c1_0,c1_1⟩,hc1,h⟩:=oB h
 dsimp only at h
 cases c1_0 with
 | nil=>
  dsimp only at h
  cases h
 | cons c1_0a c1_0t=>
  dsimp only at h
  obtain rfl:=oI h
  exact runF2 hm (kW [4] [(0,0,false),(1,1,false),(2,4,false),(3,6,true)] 4 0) (yy 9 (.rng (qqb_ a0 a1 a2 a3 a4 a5 ((c1_0a::c1_0t),c1_1) [(0,5,false),(1,4,false),(2,2,false),(3,3,false),(4,0,false),(5,1,false)] [(5,0,false),(4,1,false),(2,2,false),(3,3,false),(0,4,false),(1,5,false),(6,6,true)]) [3,5,10]) <|
   ww (qnz_ n a0 a1 a2 a3 a4 a5 ((c1_0a::c1_0t),c1_1) hc1) <|
   ww (qb_ qn_ (c1_0a::c1_0t) 38) <|
   ww (qb_ qn_ (c1_0a::c1_0t) 38) <|
   ee) (by kernel_rfl)

def q03_ (a0:W8)(a1:NL)(a2:WL rw_iLii)(a3 a4:Int)(r:WL qm_×Int):Value:=match r with
 | (o0,o1)=>(Value.tuple #[(wlV o0),(i6 o1)])
def q04_ (a0:W8)(a1:NL)(a2:WL rw_iLii)(a3 a4:Int)(r:WL qm_×Int):AH:=match r with
 | (o0,o1)=>⟨sB [],0,0⟩
abbrev G_paintOfq1 (a0:W8)(a1:NL)(a2:WL rw_iLii)(a3 a4:Int)(r:WL qm_×Int):Prop:=Gv P (.func 9) [(wlV a0),(nlV a1),(wlV a2),(i6 a3),(i6 a4)] ⟨sB [],0,0⟩ (q03_ a0 a1 a2 a3 a4 r) (q04_ a0 a1 a2 a3 a4 r)
abbrev q05_ (a0:W8)(a1:NL)(a2:WL rw_iLii)(a3 a4:Int)(r:WL qm_×Int)(ins outs:BL):CallA:=⟨0,ins,q03_ a0 a1 a2 a3 a4 r,q04_ a0 a1 a2 a3 a4 r,outs⟩
def qhi_ (n:Nat)(a0:W8)(a1:NL)(a2:WL rw_iLii)(a3 a4:Int):Option (WL qm_×Int):=
 (qg8_ n a0).bind fun c1_=>
 if c1_=0 then
  if 0≤(0:Int)∧(0:Int)<(((a0).l.length:Nat):Int) then
   ((some (((a0).l).getD ((0:Int)).toNat (0,0,0,0,0,0,nl0,0)))).bind fun c4_=>
   if (c4_.2.2.1)=0 then
    if (((a1).l.length:Nat):Int)=(((a0).l.length:Nat):Int) then
     if a3<0 then
      some ((wl0:WL qm_),2)
     else
      if a3 > a4 then
       some ((wl0:WL qm_),2)
      else
       if a4 > (c4_.2.2.2.2.1) then
        some ((wl0:WL qm_),2)
       else
        (qh7_ n a0).bind fun c10_=>
        (qew_ n a0 a1 a2 c10_ a3 a4).bind fun _=>
        (qel_ n a0 a1 a2 c10_ a3 a4).bind fun t=>match t with
        | (c12_0,c12_1)=>
         if c12_1=c12_0.length then
          if hc14:c12_0.length≤9223372036854775807 then
           some ((frzR rwo_iiii c12_0 hc14),0)
          else none
         else none
    else
     some ((wl0:WL qm_),2)
   else
    some ((wl0:WL qm_),2)
  else none
 else
  some ((wl0:WL qm_),2)
theorem qwe_ (n:Nat)(a0:W8)(a1:NL)(a2:WL rw_iLii)(a3 a4:Int)(r:WL qm_×Int)(h:qhi_ n a0 a1 a2 a3 a4=some r):G_paintOfq1 a0 a1 a2 a3 a4 r:=by
 unfold qhi_ at h
 obtain⟨c1_,hc1,h⟩:=oB h
 have k0:=fun {A L l} (k:PL A L l)=>yy 6 (.call (qs4_ a0 c1_ [] [])) <|
  ww (qnr_ n a0 c1_ hc1) <|
  k
 by_cases hc2:c1_=0
 ·rw[if_pos hc2] at h
  obtain⟨hc3,h⟩:=gd h
  obtain⟨c4_,hc4,h⟩:=oB h
  have k2:=fun {A L l} (k:PL A L l)=>zz 7 (xnF hc2) <|
   zz 10 (xk1 (a0).num (a0).off (a0).cap hc3) <|
   zz 11 (fk8 (a0).num (Nat.add (a0).off (((0:Int)).toNat*8))) <|
   zz 12 (lk9 hc4 (qw_ hc3)) <|
   k
  by_cases hc5:(c4_.2.2.1)=0
  ·rw[if_pos hc5] at h
   have k6:=fun {A L l} (k:PL A L l)=>zz 13 (xnF hc5) <|
    k
   by_cases hc6:(((a1).l.length:Nat):Int)=(((a0).l.length:Nat):Int)
   ·rw[if_pos hc6] at h
    have k7:=fun {A L l} (k:PL A L l)=>zz 20 (xnF hc6) <|
     k
    by_cases hc7:a3<0
    ·rw[if_pos hc7] at h
     obtain rfl:=oI h
     exact runF2 hm ⟨[10,11],[],0,0,[],true,[],[],[10]⟩ (k0 <|
      k2 <|
      k6 <|
      k7 <|
      zz 24 (xdT hc7) <|
      ee) (by kernel_rfl)
    ·rw[if_neg hc7] at h
     have k8:=fun {A L l} (k:PL A L l)=>zz 24 (xdF hc7) <|
      k
     by_cases hc8:a3 > a4
     ·rw[if_pos hc8] at h
      obtain rfl:=oI h
      exact runF2 hm ⟨[10,11],[],0,0,[],true,[],[],[10]⟩ (k0 <|
       k2 <|
       k6 <|
       k7 <|
       k8 <|
       zz 29 (xdT hc8) <|
       ee) (by kernel_rfl)
     ·rw[if_neg hc8] at h
      have k9:=fun {A L l} (k:PL A L l)=>zz 29 (xdF hc8) <|
       zz 34 (xk1 (a0).num (a0).off (a0).cap hc3) <|
       zz 35 (fk14 (a0).num (Nat.add (a0).off (((0:Int)).toNat*8))) <|
       zz 36 (lk15 hc4 (qw_ hc3)) <|
       k
      by_cases hc9:a4 > (c4_.2.2.2.2.1)
      ·rw[if_pos hc9] at h
       obtain rfl:=oI h
       exact runF2 hm ⟨[10,11],[],0,0,[],true,[],[],[10]⟩ (k0 <|
        k2 <|
        k6 <|
        k7 <|
        k8 <|
        k9 <|
        zz 37 (xdT hc9) <|
        ee) (by kernel_rfl)
      ·rw[if_neg hc9] at h
       obtain⟨c10_,hc10,h⟩:=oB h
       obtain⟨_,hc11,h⟩:=oB h
       obtain⟨⟨c12_0,c12_1⟩,hc12,h⟩:=oB h
       dsimp only at h
       obtain⟨hc13,h⟩:=gd h
       obtain⟨hc14,h⟩:=gdD h
       obtain rfl:=oI h
       subst hc13
       exact runF2 hm ⟨[10,11],[],0,0,[(3,Nat.add (2*codL (rows qm_ c12_0)+1) 64)],true,[],[],[]⟩ (k0 <|
        k2 <|
        k6 <|
        k7 <|
        k8 <|
        k9 <|
        zz 37 (xdF hc9) <|
        yy 45 (.call (qz6_ a0 c10_ [] [])) <|
        ww (qwz_ n a0 c10_ hc10) <|
        yy 52 (.call (qq3_ a0 a1 a2 c10_ a3 a4 () [(0,0,false)] (iD 2))) <|
        ww (qn9_ n a0 a1 a2 c10_ a3 a4 () hc11) <|
        yy 53 (.call (qt6_ a0 a1 a2 c10_ a3 a4 (c12_0,((c12_0).length)) [(0,1,false),(1,0,false)] [(1,0,false),(0,1,false),(3,3,true)])) <|
        ww (qrc_ n a0 a1 a2 c10_ a3 a4 (c12_0,((c12_0).length)) hc12) <|
        ww (qb_ qn_ c12_0 38) <|
        ww (frz_okR qip_ qsp_ rwo_iiii c12_0) <|
        ee) (by kernel_rfl)
   ·rw[if_neg hc6] at h
    obtain rfl:=oI h
    exact runF2 hm ⟨[10,11],[],0,0,[],true,[],[],[10]⟩ (k0 <|
     k2 <|
     k6 <|
     zz 20 (xnT hc6) <|
     ee) (by kernel_rfl)
  ·rw[if_neg hc5] at h
   obtain rfl:=oI h
   exact runF2 hm ⟨[10,11],[],0,0,[],true,[],[],[10]⟩ (k0 <|
    k2 <|
    zz 13 (xnT hc5) <|
    ee) (by kernel_rfl)
 ·rw[if_neg hc2] at h
  obtain rfl:=oI h
  exact runF2 hm ⟨[10,11],[],0,0,[],true,[],[],[10]⟩ (k0 <|
   zz 7 (xnT hc2) <|
   ee) (by kernel_rfl)

def q06_ (a0:WL qm_)(a1:Int)(r:Int×Int×Int×Int×Bool):Value:=match r with
 | (o0,o1,o2,o3,o4)=>(Value.tuple #[(Value.agg #[(i6 o0),(i6 o1),(i6 o2),(i6 o3)]),(bO o4)])
def q07_ (a0:WL qm_)(a1:Int)(r:Int×Int×Int×Int×Bool):AH:=match r with
 | (o0,o1,o2,o3,o4)=>⟨sB [(0,(cB [(i6 o0),(i6 o1),(i6 o2),(i6 o3)] 38))],1,0⟩
abbrev G_paintAtq1 (a0:WL qm_)(a1:Int)(r:Int×Int×Int×Int×Bool):Prop:=Gv P (.func 10) [(wlV a0),(i6 a1)] ⟨sB [],0,0⟩ (q06_ a0 a1 r) (q07_ a0 a1 r)
abbrev C_paintAtq1 (a0:WL qm_)(a1:Int)(r:Int×Int×Int×Int×Bool)(ins outs:BL):CallA:=⟨0,ins,q06_ a0 a1 r,q07_ a0 a1 r,outs⟩
def qoz_ (x0:Int)(x1:WL qm_)(x2 st:Int):XSt:=match st with
 | x3=>(sT 27 [(1,(i6 x0)),(4,(pN 0 0)),(8,(wlV x1)),(9,(i6 x2)),(10,(i6 x3))],[],⟨sB [(0,(cB [(i6 (0:Int)),(i6 (0:Int)),(i6 (0:Int)),(i6 (0:Int))] 38))],1,0⟩)
def qhd_ (x0:Int)(x1:WL qm_)(x2:Int)(r:(Int×Int×Int×Int) ⊕ (Unit)):Ex×XSt:=match r with
 | .inl (z0,z1,z2,z3)=>(.ret,(sT 27 [(4,(pN 0 0)),(5,(bO true))],[],⟨sB [(0,(cB [(i6 z0),(i6 z1),(i6 z2),(i6 z3)] 38))],1,0⟩))
 | .inr _=>(.exit 0,(sT 27 [(4,(pN 0 0))],[],⟨sB [(0,(cB [(i6 (0:Int)),(i6 (0:Int)),(i6 (0:Int)),(i6 (0:Int))] 38))],1,0⟩))
abbrev U_paintAtq1_1 (rd:Option Nat)(x0:Int)(x1:WL qm_)(x2 st:Int)(r:(Int×Int×Int×Int) ⊕ (Unit)):Prop:=CG P rd (fnN P 10) 0 (qx_ P 10 [false,true,false,true]) (qoz_ x0 x1 x2 st) (qhd_ x0 x1 x2 r)
def qjk_ (n:Nat)(x0:Int)(x1:WL qm_)(x2 st:Int):Option ((Int) ⊕ ((Int×Int×Int×Int) ⊕ (Unit))):=match st with
 | x3=>
  if x3<x2 then
   if 0≤x3∧x3<(((x1).l.length:Nat):Int) then
    ((some (((x1).l).getD (x3).toNat (0,0,0,0)))).bind fun y3_=>
    if (y3_.1)≤x0 then
     if x0<(y3_.2.1) then
      some (.inr (.inl ((y3_.1),(y3_.2.1),(y3_.2.2.1),(y3_.2.2.2))))
     else
      some (.inl (w64 (x3+1)))
    else
     some (.inl (w64 (x3+1)))
   else none
  else
   some (.inr (.inr ()))
def qo0_ (n:Nat)(x0:Int)(x1:WL qm_)(x2 st:Int):Option ((Int×Int×Int×Int) ⊕ (Unit)):=iterM (qjk_ n x0 x1 x2) n st
theorem qxk_ (n:Nat){rnd:Option Nat}(x0:Int)(x1:WL qm_)(x2 x3:Int)(o:(Int) ⊕ ((Int×Int×Int×Int) ⊕ (Unit)))(h:qjk_ n x0 x1 x2 x3=some o):CG P rnd (fnN P 10) 0 (qx_ P 10 [false,false,true,false,true]) (qoz_ x0 x1 x2 x3) (Sum.elim (fun s=>(.normal,qoz_ x0 x1 x2 s)) (fun r=>qhd_ x0 x1 x2 r) o):=by
 unfold qjk_ at h
 dsimp only at h
 by_cases hy1:x3<x2
 ·rw[if_pos hy1] at h
  obtain⟨hy2,h⟩:=gd h
  obtain⟨y3_,hy3,h⟩:=oB h
  have k0:=fun {A L l} (k:PL A L l)=>zz 1 (xdT hy1) <|
   zz 7 (xk31 (x1).num (x1).off (x1).cap hy2) <|
   zz 8 (lk32 hy3 (qw_ hy2)) <|
   k
  by_cases hy4:(y3_.1)≤x0
  ·rw[if_pos hy4] at h
   have k3:=fun {A L l} (k:PL A L l)=>zz 15 (xdT hy4) <|
    k
   by_cases hy5:x0<(y3_.2.1)
   ·rw[if_pos hy5] at h
    obtain rfl:=oI h
    exact runC2 hm (kW [4,5] [(0,0,false)] 1 0) (k0 <|
     k3 <|
     zz 20 (xdT hy5) <|
     ee) (by kernel_rfl)
   ·rw[if_neg hy5] at h
    obtain rfl:=oI h
    exact runC2 hm (kW [1,4,8,9,10] [(0,0,false)] 1 0) (k0 <|
     k3 <|
     zz 20 (xdF hy5) <|
     ee) (by kernel_rfl)
  ·rw[if_neg hy4] at h
   obtain rfl:=oI h
   exact runC2 hm (kW [1,4,8,9,10] [(0,0,false)] 1 0) (k0 <|
    zz 15 (xdF hy4) <|
    ee) (by kernel_rfl)
 ·rw[if_neg hy1] at h
  obtain rfl:=oI h
  exact runC2 hm (kW [4] [(0,0,false)] 1 0) (zz 1 (xdF hy1) <|
   ee) (by kernel_rfl)
theorem qti_ (n:Nat){rnd:Option Nat}(x0:Int)(x1:WL qm_)(x2 st:Int)(r:(Int×Int×Int×Int) ⊕ (Unit))(h:qo0_ n x0 x1 x2 st=some r):U_paintAtq1_1 rnd x0 x1 x2 st r:=
 CG.iter (b:=qx_ P 10 [false,false,true,false,true]) (by kernel_rfl) (body:=qjk_ n x0 x1 x2) (S:=qoz_ x0 x1 x2) (X:=qhd_ x0 x1 x2)
  (fun s s' h=>qxk_ n x0 x1 x2 s (.inl s') h)
  (fun s r h=>qxk_ n x0 x1 x2 s (.inr r) h)
  (fun r=>by intro hx; rcases r with _ | _<;>cases hx) h
def qqc_ (n:Nat)(a0:WL qm_)(a1:Int):Option (Int×Int×Int×Int×Bool):=
 match qo0_ n a1 a0 (((a0).l.length:Nat):Int) 0 with
 | none=>none
 | some (.inl (c1_0,c1_1,c1_2,c1_3))=>
  some (c1_0,c1_1,c1_2,c1_3,true)
 | some (.inr _)=>
  some (0,0,0,0,false)
theorem q12_ (n:Nat)(a0:WL qm_)(a1:Int)(r:Int×Int×Int×Int×Bool)(h:qqc_ n a0 a1=some r):G_paintAtq1 a0 a1 r:=by
 unfold qqc_ at h
 rcases hc1:qo0_ n a1 a0 (((a0).l.length:Nat):Int) 0 with _ | (⟨c1_0,c1_1,c1_2,c1_3⟩ | ⟨⟩)
 ·rw[hc1] at h; cases h
 ·rw[hc1] at h
  dsimp only at h
  obtain rfl:=oI h
  exact runF2 hm (kW [4,5] [(0,0,false)] 1 0) (ww (qti_ n (rnd:=none) a1 a0 (((a0).l.length:Nat):Int) 0 (.inl (c1_0,c1_1,c1_2,c1_3)) hc1) <|
   ll 9 ⟨(kW [1,4,8,9,10] [(0,0,false)] 1 0),(qhd_ a1 a0 (((a0).l.length:Nat):Int) (.inl (c1_0,c1_1,c1_2,c1_3))).1,(qhd_ a1 a0 (((a0).l.length:Nat):Int) (.inl (c1_0,c1_1,c1_2,c1_3))).2⟩ <|
   ee) (by kernel_rfl)
 ·rw[hc1] at h
  dsimp only at h
  obtain rfl:=oI h
  exact runF2 hm (kW [4,5] [(0,0,false)] 1 0) (ww (qti_ n (rnd:=none) a1 a0 (((a0).l.length:Nat):Int) 0 (.inr ()) hc1) <|
   ll 9 ⟨(kW [1,4,8,9,10] [(0,0,false)] 1 0),(qhd_ a1 a0 (((a0).l.length:Nat):Int) (.inr ())).1,(qhd_ a1 a0 (((a0).l.length:Nat):Int) (.inr ())).2⟩ <|
   ee) (by kernel_rfl)

def qo1_ (a0:W8)(a1:Int)(r:Bool):Value:=match r with
 | o0=>(bO o0)
def qo2_ (a0:W8)(a1:Int)(r:Bool):AH:=match r with
 | o0=>⟨sB [],0,0⟩
abbrev qwf_ (a0:W8)(a1:Int)(r:Bool):Prop:=Gv P (.func 50) [(wlV a0),(i6 a1)] ⟨sB [],0,0⟩ (qo1_ a0 a1 r) (qo2_ a0 a1 r)
abbrev qwg_ (a0:W8)(a1:Int)(r:Bool)(ins outs:BL):CallA:=⟨0,ins,qo1_ a0 a1 r,qo2_ a0 a1 r,outs⟩
def qgz_ (n:Nat)(a0:W8)(a1:Int):Option (Bool):=
 (qc_ n a0).bind fun c1_=>
 if c1_=0 then
  if a1 ≥ 0 then
   if a1<(((a0).l.length:Nat):Int) then
    some true
   else
    some false
  else
   some false
 else
  some false
theorem qtj_ (n:Nat)(a0:W8)(a1:Int)(r:Bool)(h:qgz_ n a0 a1=some r):qwf_ a0 a1 r:=by
 unfold qgz_ at h
 obtain⟨c1_,hc1,h⟩:=oB h
 have k0:=fun {A L l} (k:PL A L l)=>yy 4 (.call (qbf_ a0 c1_ [] [])) <|
  ww (q0_ n a0 c1_ hc1) <|
  k
 by_cases hc2:c1_=0
 ·rw[if_pos hc2] at h
  have k2:=fun {A L l} (k:PL A L l)=>zz 5 (xeT hc2) <|
   k
  by_cases hc3:a1 ≥ 0
  ·rw[if_pos hc3] at h
   have k3:=fun {A L l} (k:PL A L l)=>zz 8 (xdT hc3) <|
    k
   by_cases hc4:a1<(((a0).l.length:Nat):Int)
   ·rw[if_pos hc4] at h
    obtain rfl:=oI h
    exact runF2 hm (kW [4] [] 0 0) (k0 <|
     k2 <|
     k3 <|
     zz 14 (xdT hc4) <|
     ee) (by kernel_rfl)
   ·rw[if_neg hc4] at h
    obtain rfl:=oI h
    exact runF2 hm (kW [4] [] 0 0) (k0 <|
     k2 <|
     k3 <|
     zz 14 (xdF hc4) <|
     ee) (by kernel_rfl)
  ·rw[if_neg hc3] at h
   obtain rfl:=oI h
   exact runF2 hm (kW [4] [] 0 0) (k0 <|
    k2 <|
    zz 8 (xdF hc3) <|
    ee) (by kernel_rfl)
 ·rw[if_neg hc2] at h
  obtain rfl:=oI h
  exact runF2 hm (kW [4] [] 0 0) (k0 <|
   zz 5 (xeF hc2) <|
   ee) (by kernel_rfl)

def qkb_ (a0:W8):List Value:=[(wlV a0)]
def qkc_ (a0:W8):AH:=⟨sB [],0,0⟩
def qkd_ (a0:W8)(r:NL):Value:=match r with
 | o0=>(nlV o0)
def qgb_ (a0:W8)(r:NL):AH:=match r with
 | o0=>⟨sB [],0,0⟩
abbrev qrd_ (a0:W8)(r:NL):Prop:=Gv P (.func 51) (qkb_ a0) (qkc_ a0) (qkd_ a0 r) (qgb_ a0 r)
abbrev qre_ (a0:W8)(r:NL)(ins outs:BL):CallA:=⟨0,ins,qkd_ a0 r,qgb_ a0 r,outs⟩
def qdw_ (x0:W8)(x2:Nat)(x3:Int)(st:List Int×Int):XSt:=match st with
 | (x1,x4)=>(sT 42 [(0,(wlV x0)),(3,(sN 0 0 x2 x2)),(4,(i6 x3)),(5,(i6 x4))],[],⟨sB [(0,(cB (iv x1) 3))],1,0⟩)
def qco_ (x0:W8)(x2:Nat)(x3:Int)(r:List Int):Ex×XSt:=match r with
 | z0=>(.exit 2,(sT 42 [(0,(wlV x0)),(3,(sN 0 0 x2 x2)),(4,(i6 x3))],[],⟨sB [(0,(cB (iv z0) 3))],1,0⟩))
abbrev qpd_ (rnd:Option Nat)(x0:W8)(x2:Nat)(x3:Int)(st:List Int×Int)(c:Ex×XSt):Prop:=CG P rnd (fnN P 51) 0 (qx_ P 51 [false,false,true,false,false,true,false,false,true,false,true,true,true,true]) (qdw_ x0 x2 x3 st) c
abbrev qpe_ (rd:Option Nat)(x0:W8)(x2:Nat)(x3:Int)(st:List Int×Int)(r:List Int):Prop:=CG P rd (fnN P 51) 0 (qx_ P 51 [false,true,false,false,true,false,false,true,false,true,true,true,true]) (qdw_ x0 x2 x3 st) (qco_ x0 x2 x3 r)
def qbi_ (n:Nat)(x0:W8)(x2:Nat)(x3:Int)(st:List Int×Int):Option ((List Int×Int) ⊕ (List Int)):=match st with
 | (x1,x4)=>
  if 0≤x3∧x3<(((x0).l.length:Nat):Int) then
   ((some (((x0).l).getD (x3).toNat (0,0,0,0,0,0,nl0,0)))).bind fun y2_=>
   if x4<((((y2_.2.2.2.2.2.2.1)).l.length:Nat):Int) then
    if 0≤x4∧x4<((((y2_.2.2.2.2.2.2.1)).l.length:Nat):Int) then
     if (x4).toNat<(((y2_.2.2.2.2.2.2.1)).l).length then
      ((some ((((y2_.2.2.2.2.2.2.1)).l).getD (x4).toNat 0))).bind fun y6_=>
      if 0≤y6_∧y6_<((x2:Nat):Int) then
       if (y6_).toNat<(x1).length then
        some (.inl (((x1).set (y6_).toNat x3),(w64 (x4+1))))
       else none
      else none
     else none
    else none
   else
    some (.inr x1)
  else none
def qfp_ (n:Nat)(x0:W8)(x2:Nat)(x3:Int)(st:List Int×Int):Option (List Int):=iterM (qbi_ n x0 x2 x3) n st
theorem qil_ (n:Nat){rnd:Option Nat}(x0:W8)(x2:Nat)(x3:Int)(st:List Int×Int)(o:(List Int×Int) ⊕ (List Int))(h:qbi_ n x0 x2 x3 st=some o):qpd_ rnd x0 x2 x3 st (Sum.elim (fun s=>(.normal,qdw_ x0 x2 x3 s)) (fun r=>qco_ x0 x2 x3 r) o):=by
 obtain⟨x1,x4⟩:=st
 unfold qbi_ at h
 dsimp only at h
 obtain⟨hy1,h⟩:=gd h
 obtain⟨y2_,hy2,h⟩:=oB h
 have k0:=fun {A L l} (k:PL A L l)=>zz 5 (xk1 (x0).num (x0).off (x0).cap hy1) <|
  zz 6 (fk10 (x0).num (Nat.add (x0).off ((x3).toNat*8))) <|
  zz 7 (lk11 hy2 (qw_ hy1)) <|
  k
 by_cases hy3:x4<((((y2_.2.2.2.2.2.2.1)).l.length:Nat):Int)
 ·rw[if_pos hy3] at h
  obtain⟨hy4,h⟩:=gd h
  obtain⟨hy5,h⟩:=gd h
  obtain⟨y6_,hy6,h⟩:=oB h
  obtain⟨hy7,h⟩:=gd h
  obtain⟨hy8,h⟩:=gd h
  obtain rfl:=oI h
  exact runC2 hm (kW [0,3,4,5] [(0,0,true)] 1 0) (k0 <|
   zz 9 (xdT hy3) <|
   zz 16 (xk1 (x0).num (x0).off (x0).cap hy1) <|
   zz 17 (fk10 (x0).num (Nat.add (x0).off ((x3).toNat*8))) <|
   zz 18 (lk11 hy2 (qw_ hy1)) <|
   zz 20 (xk12 (Nat.add ((y2_.2.2.2.2.2.2.1)).num 64) ((y2_.2.2.2.2.2.2.1)).off ((y2_.2.2.2.2.2.2.1)).cap hy4) <|
   zz 21 (nk13 hy6 hy5) <|
   zz 23 (xk22 0 x2 hy7) <|
   z2 24 (stI (x3) hy8) <|
   ww (qd_ ((x1).set (y6_).toNat x3) 3) <|
   ee) (by kernel_rfl)
 ·rw[if_neg hy3] at h
  obtain rfl:=oI h
  exact runC2 hm (kW [0,3,4] [(0,0,true)] 1 0) (k0 <|
   zz 9 (xdF hy3) <|
   ww (qd_ x1 3) <|
   ee) (by kernel_rfl)
theorem qm8_ (n:Nat){rnd:Option Nat}(x0:W8)(x2:Nat)(x3:Int)(st:List Int×Int)(r:List Int)(h:qfp_ n x0 x2 x3 st=some r):qpe_ rnd x0 x2 x3 st r:=
 CG.iter (b:=qx_ P 51 [false,false,true,false,false,true,false,false,true,false,true,true,true,true]) (by kernel_rfl) (body:=qbi_ n x0 x2 x3) (S:=qdw_ x0 x2 x3) (X:=qco_ x0 x2 x3)
  (fun s s' h=>qil_ n x0 x2 x3 s (.inl s') h)
  (fun s r h=>qil_ n x0 x2 x3 s (.inr r) h)
  (fun r=>by intro hx; cases hx) h
def qdx_ (x0:W8)(x2:Nat)(st:List Int×Int):XSt:=match st with
 | (x1,x3)=>(sT 42 [(0,(wlV x0)),(3,(sN 0 0 x2 x2)),(4,(i6 x3))],[],⟨sB [(0,(cB (iv x1) 3))],1,0⟩)
def qcp_ (x0:W8)(x2:Nat)(r:List Int):Ex×XSt:=match r with
 | z0=>(.exit 0,(sT 42 [(3,(sN 0 0 x2 x2))],[],⟨sB [(0,(cB (iv z0) 3))],1,0⟩))
abbrev qpf_ (rnd:Option Nat)(x0:W8)(x2:Nat)(st:List Int×Int)(c:Ex×XSt):Prop:=CG P rnd (fnN P 51) 0 (qx_ P 51 [false,false,true,false,true,true,true,true]) (qdx_ x0 x2 st) c
abbrev qpg_ (rd:Option Nat)(x0:W8)(x2:Nat)(st:List Int×Int)(r:List Int):Prop:=CG P rd (fnN P 51) 0 (qx_ P 51 [false,true,false,true,true,true,true]) (qdx_ x0 x2 st) (qcp_ x0 x2 r)
def qbj_ (n:Nat)(x0:W8)(x2:Nat)(st:List Int×Int):Option ((List Int×Int) ⊕ (List Int)):=match st with
 | (x1,x3)=>
  if x3<(((x0).l.length:Nat):Int) then
   (qfp_ n x0 x2 x3 (x1,0)).bind fun y2_=>
   some (.inl (y2_,(w64 (x3+1))))
  else
   some (.inr x1)
def qfq_ (n:Nat)(x0:W8)(x2:Nat)(st:List Int×Int):Option (List Int):=iterM (qbj_ n x0 x2) n st
theorem qim_ (n:Nat){rnd:Option Nat}(x0:W8)(x2:Nat)(st:List Int×Int)(o:(List Int×Int) ⊕ (List Int))(h:qbj_ n x0 x2 st=some o):qpf_ rnd x0 x2 st (Sum.elim (fun s=>(.normal,qdx_ x0 x2 s)) (fun r=>qcp_ x0 x2 r) o):=by
 obtain⟨x1,x3⟩:=st
 unfold qbj_ at h
 dsimp only at h
 by_cases hy1:x3<(((x0).l.length:Nat):Int)
 ·rw[if_pos hy1] at h
  obtain⟨y2_,hy2,h⟩:=oB h
  obtain rfl:=oI h
  exact runC2 hm (kW [0,3,4] [(0,0,true)] 1 0) (zz 5 (xdT hy1) <|
   ww (qm8_ n (rnd:=rnd) x0 x2 x3 (x1,0) y2_ hy2) <|
   ww (qd_ x1 3) <|
   ll 12 ⟨(kW [0,3,4,5] [(0,0,true)] 1 0),(qco_ x0 x2 x3 y2_).1,(qco_ x0 x2 x3 y2_).2⟩ <|
   ww (qd_ y2_ 3) <|
   ee) (by kernel_rfl)
 ·rw[if_neg hy1] at h
  obtain rfl:=oI h
  exact runC2 hm (kW [3] [(0,0,true)] 1 0) (zz 5 (xdF hy1) <|
   ww (qd_ x1 3) <|
   ee) (by kernel_rfl)
theorem qm9_ (n:Nat){rnd:Option Nat}(x0:W8)(x2:Nat)(st:List Int×Int)(r:List Int)(h:qfq_ n x0 x2 st=some r):qpg_ rnd x0 x2 st r:=
 CG.iter (b:=qx_ P 51 [false,false,true,false,true,true,true,true]) (by kernel_rfl) (body:=qbj_ n x0 x2) (S:=qdx_ x0 x2) (X:=qcp_ x0 x2)
  (fun s s' h=>qim_ n x0 x2 s (.inl s') h)
  (fun s r h=>qim_ n x0 x2 s (.inr r) h)
  (fun r=>by intro hx; cases hx) h
def qdb_ (n:Nat)(a0:W8):Option (NL):=
 (qc_ n a0).bind fun c1_=>
 if c1_=0 then
  if 0≤(((a0).l.length:Nat):Int) then
   if ((((a0).l.length:Nat):Int)).toNat*8≤140737488355328 then
    if 0≤(0:Int)∧(0:Int)<((((((a0).l.length:Nat):Int)).toNat:Nat):Int) then
     if ((0:Int)).toNat<((List.replicate ((((a0).l.length:Nat):Int)).toNat (0:Int))).length then
      (qfq_ n a0 (((((a0).l.length:Nat):Int)).toNat) ((((List.replicate ((((a0).l.length:Nat):Int)).toNat (0:Int))).set ((0:Int)).toNat (-1:Int)),0)).bind fun c7_=>
      if (((((a0).l.length:Nat):Int)).toNat)=c7_.length then
       if hc9:c7_.length≤140737488355328 then
        some (frzL c7_ hc9)
       else none
      else none
     else none
    else none
   else none
  else none
 else
  some nl0
theorem qom_ (n:Nat)(a0:W8)(r:NL)(h:qdb_ n a0=some r):qrd_ a0 r:=by
 unfold qdb_ at h
 obtain⟨c1_,hc1,h⟩:=oB h
 have k0:=fun {A L l} (k:PL A L l)=>yy 5 (.call (qbf_ a0 c1_ [] [])) <|
  ww (q0_ n a0 c1_ hc1) <|
  k
 by_cases hc2:c1_=0
 ·rw[if_pos hc2] at h
  obtain⟨hc3,h⟩:=gd h
  obtain⟨hc4,h⟩:=gd h
  obtain⟨hc5,h⟩:=gd h
  obtain⟨hc6,h⟩:=gd h
  obtain⟨c7_,hc7,h⟩:=oB h
  obtain⟨hc8,h⟩:=gd h
  obtain⟨hc9,h⟩:=gdD h
  obtain rfl:=oI h
  have k0_:Gv P (.func 51) (qkb_ a0) (qkc_ a0) (Value.slice (some ⟨Nat.add (2*cod c7_+1) 64,0,some 1⟩) (((((a0).l.length:Nat):Int)).toNat) (Nat.add big (((((a0).l.length:Nat):Int)).toNat))) (qgb_ a0 (frzL c7_ hc9)):=runF2 hm ⟨[2],[],0,0,[(0,Nat.add (2*cod c7_+1) 64)],true,[],[],[]⟩ (k0 <|
  zz 6 (xnF hc2) <|
  yy 11 (.mk ((((a0).l.length:Nat):Int)).toNat (iv (List.replicate ((((a0).l.length:Nat):Int)).toNat (0:Int)))) <|
  ww (p:=natOf (i6 (((a0).l.length:Nat):Int))=some ((((a0).l.length:Nat):Int)).toNat) (qgl_ hc3) <|
  ww (p:=natOf (i6 (((a0).l.length:Nat):Int))=some ((((a0).l.length:Nat):Int)).toNat) (qgl_ hc3) <|
  ww (p:=fits ((((a0).l.length:Nat):Int)).toNat 8=true) (ql8_ hc4 (by omega)) <|
  ww (p:=isZ8 [(i6 (0:Int))]=false) (rfl) <|
  ww (p:=reps [(i6 (0:Int))] ((((a0).l.length:Nat):Int)).toNat=(iv (List.replicate ((((a0).l.length:Nat):Int)).toNat (0:Int)))) (reps_iv _) <|
  zz 15 (xk22 0 ((((a0).l.length:Nat):Int)).toNat hc5) <|
  z2 16 (stI ((-1:Int)) hc6) <|
  ww (qm9_ n (rnd:=none) a0 (((((a0).l.length:Nat):Int)).toNat) ((((List.replicate ((((a0).l.length:Nat):Int)).toNat (0:Int))).set ((0:Int)).toNat (-1:Int)),0) c7_ hc7) <|
  ww (qd_ (((List.replicate ((((a0).l.length:Nat):Int)).toNat (0:Int))).set ((0:Int)).toNat (-1:Int)) 3) <|
  ll 21 ⟨(kW [0,3,4] [(0,0,true)] 1 0),(qcp_ a0 (((((a0).l.length:Nat):Int)).toNat) c7_).1,(qcp_ a0 (((((a0).l.length:Nat):Int)).toNat) c7_).2⟩ <|
  ww (frz_ok qip_ qsp_ c7_) <|
  ee) (by kernel_rfl)
  have k1_:=gvLen (fn:=fun m_=>(Value.slice (some ⟨Nat.add (2*cod c7_+1) 64,0,some 1⟩) m_ (Nat.add big m_))) hc8 k0_
  exact k1_
 ·rw[if_neg hc2] at h
  obtain rfl:=oI h
  exact runF2 hm ⟨[2],[],0,0,[],true,[],[],[2]⟩ (k0 <|
   zz 6 (xnT hc2) <|
   ee) (by kernel_rfl)

def qms_ (a0:W8)(a1:Int)(r:NL):Value:=match r with
 | o0=>(nlV o0)
def qmt_ (a0:W8)(a1:Int)(r:NL):AH:=match r with
 | o0=>⟨sB [],0,0⟩
abbrev qt7_ (a0:W8)(a1:Int)(r:NL):Prop:=Gv P (.func 29) [(wlV a0),(i6 a1)] ⟨sB [],0,0⟩ (qms_ a0 a1 r) (qmt_ a0 a1 r)
abbrev qmu_ (a0:W8)(a1:Int)(r:NL)(ins outs:BL):CallA:=⟨0,ins,qms_ a0 a1 r,qmt_ a0 a1 r,outs⟩
def qe7_ (x0:W8)(x2:NL)(st:Int×List Int×Nat×Nat):XSt:=match st with
 | (x1,x3,x4,x5)=>(sT 28 [(0,(wlV x0)),(1,(i6 x1)),(5,(nlV x2)),(6,(slKQ x3 0 x4 0 x5))],[],⟨sB [(0,(nblk x3 3))],1,0⟩)
def qdr_ (x0:W8)(x2:NL)(r:List Int×Nat×Nat):Ex×XSt:=match r with
 | (z0,z1,z2)=>(.exit 0,(sT 28 [(6,(slKQ z0 0 z1 0 z2))],[],⟨sB [(0,(nblk z0 3))],1,0⟩))
abbrev qr5_ (rnd:Option Nat)(x0:W8)(x2:NL)(st:Int×List Int×Nat×Nat)(c:Ex×XSt):Prop:=CG P rnd (fnN P 29) 0 (qx_ P 29 [false,false,false,true,true,true,true]) (qe7_ x0 x2 st) c
abbrev qr6_ (rd:Option Nat)(x0:W8)(x2:NL)(st:Int×List Int×Nat×Nat)(r:List Int×Nat×Nat):Prop:=CG P rd (fnN P 29) 0 (qx_ P 29 [false,false,true,true,true,true]) (qe7_ x0 x2 st) (qdr_ x0 x2 r)
def q1_ (n:Nat)(x0:W8)(x2:NL)(st:Int×List Int×Nat×Nat):Option ((Int×List Int×Nat×Nat) ⊕ (List Int×Nat×Nat)):=match st with
 | (x1,x3,x4,x5)=>
  match x3 with
  | []=>
   if x1 ≥ 0 then
    if 0≤x1∧x1<(((x0).l.length:Nat):Int) then
     ((some (((x0).l).getD (x1).toNat (0,0,0,0,0,0,nl0,0)))).bind fun y3_=>
     if 0≤x1∧x1<(((x2).l.length:Nat):Int) then
      if (x1).toNat<((x2).l).length then
       ((some (((x2).l).getD (x1).toNat 0))).bind fun y6_=>
       some (.inl (y6_,[(y3_.1)],1,1))
      else none
     else none
    else none
   else
    some (.inr (([]:List Int),0,0))
  | x3a::x3t=>
   if x1 ≥ 0 then
    if 0≤x1∧x1<(((x0).l.length:Nat):Int) then
     ((some (((x0).l).getD (x1).toNat (0,0,0,0,0,0,nl0,0)))).bind fun y3_=>
     if 0<x4 then
      if 0+x4≤((x3a::x3t)).length then
       if (1+x4)*8≤140737488355328 then
        if 1<1+x4 then
         if 0≤x1∧x1<(((x2).l.length:Nat):Int) then
          if (x1).toNat<((x2).l).length then
           ((some (((x2).l).getD (x1).toNat 0))).bind fun y10_=>
           some (.inl (y10_,([(y3_.1)]++(List.take x4 (List.drop 0 (x3a::x3t)))),((([(y3_.1)]++(List.take x4 (List.drop 0 (x3a::x3t))))).length),(Nat.add big 1)))
          else none
         else none
        else none
       else none
      else none
     else
      if 0≤x1∧x1<(((x2).l.length:Nat):Int) then
       if (x1).toNat<((x2).l).length then
        ((some (((x2).l).getD (x1).toNat 0))).bind fun y7_=>
        some (.inl (y7_,[(y3_.1)],1,1))
       else none
      else none
    else none
   else
    some (.inr ((x3a::x3t),x4,x5))
def qgp_ (n:Nat)(x0:W8)(x2:NL)(st:Int×List Int×Nat×Nat):Option (List Int×Nat×Nat):=iterM (q1_ n x0 x2) n st
theorem qkv_ (n:Nat){rnd:Option Nat}(x0:W8)(x2:NL)(st:Int×List Int×Nat×Nat)(o:(Int×List Int×Nat×Nat) ⊕ (List Int×Nat×Nat))(h:q1_ n x0 x2 st=some o):qr5_ rnd x0 x2 st (Sum.elim (fun s=>(.normal,qe7_ x0 x2 s)) (fun r=>qdr_ x0 x2 r) o):=by
 obtain⟨x1,x3,x4,x5⟩:=st
 unfold q1_ at h
 dsimp only at h
 cases x3 with
 | nil=>
  dsimp only at h
  by_cases hy1:x1 ≥ 0
  ·rw[if_pos hy1] at h
   obtain⟨hy2,h⟩:=gd h
   obtain⟨y3_,hy3,h⟩:=oB h
   obtain⟨hy4,h⟩:=gd h
   obtain⟨hy5,h⟩:=gd h
   obtain⟨y6_,hy6,h⟩:=oB h
   obtain rfl:=oI h
   exact runC2 hm (kW [0,1,5,6] [(0,1,false)] 1 0) (zz 3 (xdT hy1) <|
    zz 9 (xk1 (x0).num (x0).off (x0).cap hy2) <|
    zz 10 (fk28 (x0).num (Nat.add (x0).off ((x1).toNat*8))) <|
    zz 11 (lk29 hy3 (qw_ hy2)) <|
    zz 18 (xk12 (Nat.add (x2).num 64) (x2).off (x2).cap hy4) <|
    zz 19 (nk13 hy6 hy5) <|
    ee) (by kernel_rfl)
  ·rw[if_neg hy1] at h
   obtain rfl:=oI h
   exact runC2 hm (kW [6] [] 1 0) (zz 3 (xdF hy1) <|
    ee) (by kernel_rfl)
 | cons x3a x3t=>
  dsimp only at h
  by_cases hy1:x1 ≥ 0
  ·rw[if_pos hy1] at h
   obtain⟨hy2,h⟩:=gd h
   obtain⟨y3_,hy3,h⟩:=oB h
   have k0:=fun {A L l} (k:PL A L l)=>zz 3 (xdT hy1) <|
    zz 9 (xk1 (x0).num (x0).off (x0).cap hy2) <|
    zz 10 (fk28 (x0).num (Nat.add (x0).off ((x1).toNat*8))) <|
    zz 11 (lk29 hy3 (qw_ hy2)) <|
    k
   by_cases hy4:0<x4
   ·rw[if_pos hy4] at h
    obtain⟨hy5,h⟩:=gd h
    obtain⟨hy6,h⟩:=gd h
    obtain⟨hy7,h⟩:=gd h
    obtain⟨hy8,h⟩:=gd h
    obtain⟨hy9,h⟩:=gd h
    obtain⟨y10_,hy10,h⟩:=oB h
    obtain rfl:=oI h
    exact runC2 hm (kW [0,1,5,6] [(0,2,true)] 1 0) (k0 <|
     ww (p:=x4=x4) (rfl) <|
     ww (p:=rdT (layT (iv (x3a::x3t))) (Nat.mul x4 1) 0=some (iv (List.take x4 (List.drop 0 (x3a::x3t))))) ((Nat.zero_mul 1 ▸ iv_rdSub _ 0 _ hy5)) <|
     yy 14 (.app ⟨some (x4,(iv (List.take x4 (List.drop 0 (x3a::x3t))))),[(i6 (y3_.1))],(iv ([(y3_.1)]++(List.take x4 (List.drop 0 (x3a::x3t))))),(([(y3_.1)]++(List.take x4 (List.drop 0 (x3a::x3t))))).length,true⟩) <|
     ww (p:=0<x4) (hy4) <|
     ww (p:=1<big) ((by decide)) <|
     ww (p:=1<Nat.add 1 x4) (hy7) <|
     ww (p:=rdT (layT [(i6 (y3_.1))]) (Nat.mul 1 1) 0=some ([(i6 (y3_.1))])) (rfl) <|
     ww (p:=fits (Nat.add 1 x4) 8=true) (ql8_ hy6 (by have:=hy6; show (_:Nat)+_≤_; omega)) <|
     ww (p:=[(i6 (y3_.1))]++(iv (List.take x4 (List.drop 0 (x3a::x3t))))=(iv ([(y3_.1)]++(List.take x4 (List.drop 0 (x3a::x3t)))))) (by simp[iv]) <|
     ww (p:=Nat.add 1 x4=(([(y3_.1)]++(List.take x4 (List.drop 0 (x3a::x3t))))).length) (by simp<;>(try simp only[List.length_cons] at *)<;>omega) <|
     zz 18 (xk12 (Nat.add (x2).num 64) (x2).off (x2).cap hy8) <|
     zz 19 (nk13 hy10 hy9) <|
     ww (qd_ ([(y3_.1)]++(List.take x4 (List.drop 0 (x3a::x3t)))) 3) <|
     ee) (by kernel_rfl)
   ·rw[if_neg hy4] at h
    obtain⟨hy5,h⟩:=gd h
    obtain⟨hy6,h⟩:=gd h
    obtain⟨y7_,hy7,h⟩:=oB h
    obtain rfl:=oI h
    exact runC2 hm (kW [0,1,5,6] [(0,1,false)] 1 0) (k0 <|
     yy 14 (.app0) <|
     ww (p:=0=x4) ((by have:=hy4; omega)) <|
     ww (p:=rdT (layT (iv (x3a::x3t))) (Nat.mul x4 1) 0=some []) (rdT_zero (by have:=hy4; omega)) <|
     ww (p:=∀ H:AH,q1f_ H 1 3 8 (0,[]) (sN 1 0 1 1)=some ((sN 1 0 1 1),H)) (fun _=>rfl) <|
     zz 18 (xk12 (Nat.add (x2).num 64) (x2).off (x2).cap hy5) <|
     zz 19 (nk13 hy7 hy6) <|
     ee) (by kernel_rfl)
  ·rw[if_neg hy1] at h
   obtain rfl:=oI h
   exact runC2 hm (kW [6] [(0,0,true)] 1 0) (zz 3 (xdF hy1) <|
    ww (qd_ (x3a::x3t) 3) <|
    ee) (by kernel_rfl)
theorem qph_ (n:Nat){rnd:Option Nat}(x0:W8)(x2:NL)(st:Int×List Int×Nat×Nat)(r:List Int×Nat×Nat)(h:qgp_ n x0 x2 st=some r):qr6_ rnd x0 x2 st r:=
 CG.iter (b:=qx_ P 29 [false,false,false,true,true,true,true]) (by kernel_rfl) (body:=q1_ n x0 x2) (S:=qe7_ x0 x2) (X:=qdr_ x0 x2)
  (fun s s' h=>qkv_ n x0 x2 s (.inl s') h)
  (fun s r h=>qkv_ n x0 x2 s (.inr r) h)
  (fun r=>by intro hx; cases hx) h
def qcj_ (n:Nat)(a0:W8)(a1:Int):Option (NL):=
 (qgz_ n a0 a1).bind fun c1_=>
 if c1_=true then
  (qdb_ n a0).bind fun c3_=>
  (qgp_ n a0 c3_ (a1,([]:List Int),0,0)).bind fun t=>match t with
  | (c4_0,c4_1,c4_2)=>
   match c4_0 with
   | []=>
    none
   | c4_0a::c4_0t=>
    if c4_1=(c4_0a::c4_0t).length then
     if hc6:(c4_0a::c4_0t).length≤140737488355328 then
      some (frzL (c4_0a::c4_0t) hc6)
     else none
    else none
 else
  none
theorem qke_ (n:Nat)(a0:W8)(a1:Int)(r:NL)(h:qcj_ n a0 a1=some r):qt7_ a0 a1 r:=by
 unfold qcj_ at h
 obtain⟨c1_,hc1,h⟩:=oB h
 have k0:=fun {A L l} (k:PL A L l)=>yy 6 (.call (qwg_ a0 a1 c1_ [] [])) <|
  ww (qtj_ n a0 a1 c1_ hc1) <|
  k
 by_cases hc2:c1_=true
 ·rw[if_pos hc2] at h
  obtain⟨c3_,hc3,h⟩:=oB h
  obtain⟨⟨c4_0,c4_1,c4_2⟩,hc4,h⟩:=oB h
  dsimp only at h
  have k2:=fun {A L l} (k:PL A L l)=>yy 7 (vf) <|
   ww (p:=(Value.bool (!c1_))=(Value.bool false)) (vBn hc2) <|
   yy 11 (.call (qre_ a0 c3_ [] [])) <|
   ww (qom_ n a0 c3_ hc3) <|
   k
  cases c4_0 with
  | nil=>
   dsimp only at h
   cases h
  | cons c4_0a c4_0t=>
   dsimp only at h
   obtain⟨hc5,h⟩:=gd h
   obtain⟨hc6,h⟩:=gdD h
   obtain rfl:=oI h
   subst hc5
   exact runF2 hm ⟨[4],[],0,0,[(0,Nat.add (2*cod (c4_0a::c4_0t)+1) 64)],true,[],[],[]⟩ (k0 <|
    k2 <|
    ww (qph_ n (rnd:=none) a0 c3_ (a1,([]:List Int),0,0) ((c4_0a::c4_0t),(((c4_0a::c4_0t)).length),c4_2) hc4) <|
    ll 17 ⟨(kW [0,1,5,6] [] 1 0),(qdr_ a0 c3_ ((c4_0a::c4_0t),(((c4_0a::c4_0t)).length),c4_2)).1,(qdr_ a0 c3_ ((c4_0a::c4_0t),(((c4_0a::c4_0t)).length),c4_2)).2⟩ <|
    ww (frz_ok qip_ qsp_ (c4_0a::c4_0t)) <|
    ee) (by kernel_rfl)
 ·rw[if_neg hc2] at h
  cases h

def qkf_ (a0:Int)(a1:NL)(a2 a3 a4:Int)(a5:NL)(r:Bool):Value:=match r with
 | o0=>(bO o0)
def qkg_ (a0:Int)(a1:NL)(a2 a3 a4:Int)(a5:NL)(r:Bool):AH:=match r with
 | o0=>⟨sB [],0,0⟩
abbrev qrf_ (a0:Int)(a1:NL)(a2 a3 a4:Int)(a5:NL)(r:Bool):Prop:=Gv P (.func 52) [(Value.agg #[(i6 a0),(nlV a1),(i6 a2),(i6 a3)]),(i6 a4),(nlV a5)] ⟨sB [],0,0⟩ (qkf_ a0 a1 a2 a3 a4 a5 r) (qkg_ a0 a1 a2 a3 a4 a5 r)
abbrev qrg_ (a0:Int)(a1:NL)(a2 a3 a4:Int)(a5:NL)(r:Bool)(ins outs:BL):CallA:=⟨0,ins,qkf_ a0 a1 a2 a3 a4 a5 r,qkg_ a0 a1 a2 a3 a4 a5 r,outs⟩
def qdy_ (x0:NL)(x1:Int)(x2:NL)(x3 x4 st:Int):XSt:=match st with
 | x5=>(sT 44 [(2,(nlV x0)),(3,(pN 0 0)),(7,(i6 x5))],[],⟨sB [(0,(cB [(i6 x1),(nlV x2),(i6 x3),(i6 x4)] 56))],1,0⟩)
def qbk_ (x0:NL)(x1:Int)(x2:NL)(x3 x4:Int)(r:(Unit) ⊕ (Unit)):Ex×XSt:=match r with
 | .inl _=>(.ret,(sT 44 [(6,(bO false))],[],⟨sB [],0,0⟩))
 | .inr _=>(.exit 0,(sT 44 [],[],⟨sB [],0,0⟩))
abbrev qpi_ (rd:Option Nat)(x0:NL)(x1:Int)(x2:NL)(x3 x4 st:Int)(r:(Unit) ⊕ (Unit)):Prop:=CG P rd (fnN P 52) 0 (qx_ P 52 [false,true,false,true,true]) (qdy_ x0 x1 x2 x3 x4 st) (qbk_ x0 x1 x2 x3 x4 r)
def q2_ (n:Nat)(x0:NL)(x1:Int)(x2:NL)(x3 x4 st:Int):Option ((Int) ⊕ ((Unit) ⊕ (Unit))):=match st with
 | x5=>
  if x5≤(((x2).l.length:Nat):Int) then
   ((some (w64 ((((x2).l.length:Nat):Int)-x5)))).bind fun y2_=>
   if 0≤y2_∧y2_<(((x2).l.length:Nat):Int) then
    if (y2_).toNat<((x2).l).length then
     ((some (((x2).l).getD (y2_).toNat 0))).bind fun y5_=>
     ((some (w64 ((((x0).l.length:Nat):Int)-x5)))).bind fun y6_=>
     if 0≤y6_∧y6_<(((x0).l.length:Nat):Int) then
      if (y6_).toNat<((x0).l).length then
       ((some (((x0).l).getD (y6_).toNat 0))).bind fun y9_=>
       if y5_=y9_ then
        some (.inl (w64 (x5+1)))
       else
        some (.inr (.inl ()))
      else none
     else none
    else none
   else none
  else
   some (.inr (.inr ()))
def qdz_ (n:Nat)(x0:NL)(x1:Int)(x2:NL)(x3 x4 st:Int):Option ((Unit) ⊕ (Unit)):=iterM (q2_ n x0 x1 x2 x3 x4) n st
theorem qin_ (n:Nat){rnd:Option Nat}(x0:NL)(x1:Int)(x2:NL)(x3 x4 x5:Int)(o:(Int) ⊕ ((Unit) ⊕ (Unit)))(h:q2_ n x0 x1 x2 x3 x4 x5=some o):CG P rnd (fnN P 52) 0 (qx_ P 52 [false,false,true,false,true,true]) (qdy_ x0 x1 x2 x3 x4 x5) (Sum.elim (fun s=>(.normal,qdy_ x0 x1 x2 x3 x4 s)) (fun r=>qbk_ x0 x1 x2 x3 x4 r) o):=by
 unfold q2_ at h
 dsimp only at h
 by_cases hy1:x5≤(((x2).l.length:Nat):Int)
 ·rw[if_pos hy1] at h
  obtain⟨y2_,hy2,h⟩:=oB h
  obtain⟨hy3,h⟩:=gd h
  obtain⟨hy4,h⟩:=gd h
  obtain⟨y5_,hy5,h⟩:=oB h
  obtain⟨y6_,hy6,h⟩:=oB h
  obtain⟨hy7,h⟩:=gd h
  obtain⟨hy8,h⟩:=gd h
  obtain⟨y9_,hy9,h⟩:=oB h
  have k0:=fun {A L l} (k:PL A L l)=>zz 6 (xdT hy1) <|
   zz 17 (xnm hy2) <|
   zz 18 (xk12 (Nat.add (x2).num 64) (x2).off (x2).cap hy3) <|
   zz 19 (nk13 hy5 hy4) <|
   zz 24 (xnm hy6) <|
   zz 25 (xk12 (Nat.add (x0).num 64) (x0).off (x0).cap hy7) <|
   zz 26 (nk13 hy9 hy8) <|
   k
  by_cases hy10:y5_=y9_
  ·rw[if_pos hy10] at h
   obtain rfl:=oI h
   exact runC2 hm (kW [2,3,7] [(0,0,false)] 1 0) (k0 <|
    zz 27 (xnF hy10) <|
    ee) (by kernel_rfl)
  ·rw[if_neg hy10] at h
   obtain rfl:=oI h
   exact runC2 hm (kW [6] [] 0 0) (k0 <|
    zz 27 (xnT hy10) <|
    ee) (by kernel_rfl)
 ·rw[if_neg hy1] at h
  obtain rfl:=oI h
  exact runC2 hm (kW [] [] 0 0) (zz 6 (xdF hy1) <|
   ee) (by kernel_rfl)
theorem qg0_ (n:Nat){rnd:Option Nat}(x0:NL)(x1:Int)(x2:NL)(x3 x4 st:Int)(r:(Unit) ⊕ (Unit))(h:qdz_ n x0 x1 x2 x3 x4 st=some r):qpi_ rnd x0 x1 x2 x3 x4 st r:=
 CG.iter (b:=qx_ P 52 [false,false,true,false,true,true]) (by kernel_rfl) (body:=q2_ n x0 x1 x2 x3 x4) (S:=qdy_ x0 x1 x2 x3 x4) (X:=qbk_ x0 x1 x2 x3 x4)
  (fun s s' h=>qin_ n x0 x1 x2 x3 x4 s (.inl s') h)
  (fun s r h=>qin_ n x0 x1 x2 x3 x4 s (.inr r) h)
  (fun r=>by intro hx; rcases r with _ | _<;>cases hx) h
def qdc_ (n:Nat)(a0:Int)(a1:NL)(a2 a3 a4:Int)(a5:NL):Option (Bool):=
 if a0=a4 then
  if (((a1).l.length:Nat):Int) > (((a5).l.length:Nat):Int) then
   some false
  else
   match qdz_ n a5 a0 a1 a2 a3 1 with
   | none=>none
   | some (.inl _)=>
    some false
   | some (.inr _)=>
    some true
 else
  some false
theorem qon_ (n:Nat)(a0:Int)(a1:NL)(a2 a3 a4:Int)(a5:NL)(r:Bool)(h:qdc_ n a0 a1 a2 a3 a4 a5=some r):qrf_ a0 a1 a2 a3 a4 a5 r:=by
 unfold qdc_ at h
 by_cases hc1:a0=a4
 ·rw[if_pos hc1] at h
  have k0:=fun {A L l} (k:PL A L l)=>zz 8 (xnF hc1) <|
   k
  by_cases hc2:(((a1).l.length:Nat):Int) > (((a5).l.length:Nat):Int)
  ·rw[if_pos hc2] at h
   obtain rfl:=oI h
   exact runF2 hm (kW [6] [] 0 0) (k0 <|
    zz 15 (xdT hc2) <|
    ee) (by kernel_rfl)
  ·rw[if_neg hc2] at h
   have k1:=fun {A L l} (k:PL A L l)=>zz 15 (xdF hc2) <|
    k
   rcases hc3:qdz_ n a5 a0 a1 a2 a3 1 with _ | (⟨⟩ | ⟨⟩)
   ·rw[hc3] at h; cases h
   ·rw[hc3] at h
    dsimp only at h
    obtain rfl:=oI h
    exact runF2 hm (kW [6] [] 0 0) (k0 <|
     k1 <|
     ww (qg0_ n (rnd:=none) a5 a0 a1 a2 a3 1 (.inl ()) hc3) <|
     ll 22 ⟨(kW [2,3,7] [(0,0,false)] 1 0),(qbk_ a5 a0 a1 a2 a3 (.inl ())).1,(qbk_ a5 a0 a1 a2 a3 (.inl ())).2⟩ <|
     ee) (by kernel_rfl)
   ·rw[hc3] at h
    dsimp only at h
    obtain rfl:=oI h
    exact runF2 hm (kW [6] [] 0 0) (k0 <|
     k1 <|
     ww (qg0_ n (rnd:=none) a5 a0 a1 a2 a3 1 (.inr ()) hc3) <|
     ll 22 ⟨(kW [2,3,7] [(0,0,false)] 1 0),(qbk_ a5 a0 a1 a2 a3 (.inr ())).1,(qbk_ a5 a0 a1 a2 a3 (.inr ())).2⟩ <|
     ee) (by kernel_rfl)
 ·rw[if_neg hc1] at h
  obtain rfl:=oI h
  exact runF2 hm (kW [6] [] 0 0) (zz 8 (xnT hc1) <|
   ee) (by kernel_rfl)

def ql2_ (a0:WL rw_iLii)(a1:Int)(a2:NL)(r:Int):Value:=match r with
 | o0=>(i6 o0)
def ql3_ (a0:WL rw_iLii)(a1:Int)(a2:NL)(r:Int):AH:=match r with
 | o0=>⟨sB [],0,0⟩
abbrev qtk_ (a0:WL rw_iLii)(a1:Int)(a2:NL)(r:Int):Prop:=Gv P (.func 30) [(wlV a0),(i6 a1),(nlV a2)] ⟨sB [],0,0⟩ (ql2_ a0 a1 a2 r) (ql3_ a0 a1 a2 r)
abbrev ql4_ (a0:WL rw_iLii)(a1:Int)(a2:NL)(r:Int)(ins outs:BL):CallA:=⟨0,ins,ql2_ a0 a1 a2 r,ql3_ a0 a1 a2 r,outs⟩
def qez_ (x0:WL rw_iLii)(x1:Int)(x2:NL)(st:Int×Int):XSt:=match st with
 | (x3,x4)=>(sT 47 [(0,(wlV x0)),(1,(i6 x1)),(2,(nlV x2)),(7,(i6 x3)),(8,(i6 x4))],[],⟨sB [],0,0⟩)
def qdd_ (x0:WL rw_iLii)(x1:Int)(x2:NL)(r:Int):Ex×XSt:=match r with
 | z0=>(.exit 0,(sT 47 [(0,(wlV x0)),(7,(i6 z0))],[],⟨sB [],0,0⟩))
abbrev qrh_ (rnd:Option Nat)(x0:WL rw_iLii)(x1:Int)(x2:NL)(st:Int×Int)(c:Ex×XSt):Prop:=CG P rnd (fnN P 30) 0 (qx_ P 30 [false,false,true,false,true,true]) (qez_ x0 x1 x2 st) c
abbrev qri_ (rd:Option Nat)(x0:WL rw_iLii)(x1:Int)(x2:NL)(st:Int×Int)(r:Int):Prop:=CG P rd (fnN P 30) 0 (qx_ P 30 [false,true,false,true,true]) (qez_ x0 x1 x2 st) (qdd_ x0 x1 x2 r)
def qby_ (n:Nat)(x0:WL rw_iLii)(x1:Int)(x2:NL)(st:Int×Int):Option ((Int×Int) ⊕ (Int)):=match st with
 | (x3,x4)=>
  if x4<(((x0).l.length:Nat):Int) then
   if 0≤x4∧x4<(((x0).l.length:Nat):Int) then
    ((some (((x0).l).getD (x4).toNat (0,nl0,0,0)))).bind fun y3_=>
    (qdc_ n (y3_.1) (y3_.2.1) (y3_.2.2.1) (y3_.2.2.2) x1 x2).bind fun y4_=>
    if y4_=true then
     if x3<0 then
      some (.inl (x4,(w64 (x4+1))))
     else
      if 0≤x3∧x3<(((x0).l.length:Nat):Int) then
       ((some (((x0).l).getD (x3).toNat (0,nl0,0,0)))).bind fun y8_=>
       if (y3_.2.2.2) > (y8_.2.2.2) then
        some (.inl (x4,(w64 (x4+1))))
       else
        some (.inl (x3,(w64 (x4+1))))
      else none
    else
     some (.inl (x3,(w64 (x4+1))))
   else none
  else
   some (.inr x3)
def qgc_ (n:Nat)(x0:WL rw_iLii)(x1:Int)(x2:NL)(st:Int×Int):Option (Int):=iterM (qby_ n x0 x1 x2) n st
theorem qkh_ (n:Nat){rnd:Option Nat}(x0:WL rw_iLii)(x1:Int)(x2:NL)(st:Int×Int)(o:(Int×Int) ⊕ (Int))(h:qby_ n x0 x1 x2 st=some o):qrh_ rnd x0 x1 x2 st (Sum.elim (fun s=>(.normal,qez_ x0 x1 x2 s)) (fun r=>qdd_ x0 x1 x2 r) o):=by
 obtain⟨x3,x4⟩:=st
 unfold qby_ at h
 dsimp only at h
 by_cases hy1:x4<(((x0).l.length:Nat):Int)
 ·rw[if_pos hy1] at h
  obtain⟨hy2,h⟩:=gd h
  obtain⟨y3_,hy3,h⟩:=oB h
  obtain⟨y4_,hy4,h⟩:=oB h
  have k0:=fun {A L l} (k:PL A L l)=>zz 5 (xdT hy1) <|
   zz 12 (xk3 (x0).num (x0).off (x0).cap hy2) <|
   zz 13 (lk27 hy3 (qw_ hy2)) <|
   yy 16 (.call (qrg_ (y3_.1) (y3_.2.1) (y3_.2.2.1) (y3_.2.2.2) x1 x2 y4_ [] [])) <|
   ww (qon_ n (y3_.1) (y3_.2.1) (y3_.2.2.1) (y3_.2.2.2) x1 x2 y4_ hy4) <|
   k
  by_cases hy5:y4_=true
  ·rw[if_pos hy5] at h
   have k5:=fun {A L l} (k:PL A L l)=>zz 17 (xbT hy5) <|
    k
   by_cases hy6:x3<0
   ·rw[if_pos hy6] at h
    obtain rfl:=oI h
    exact runC2 hm (kW [0,1,2,7,8] [] 0 0) (k0 <|
     k5 <|
     zz 19 (xdT hy6) <|
     ee) (by kernel_rfl)
   ·rw[if_neg hy6] at h
    obtain⟨hy7,h⟩:=gd h
    obtain⟨y8_,hy8,h⟩:=oB h
    have k6:=fun {A L l} (k:PL A L l)=>zz 19 (xdF hy6) <|
     zz 23 (xk3 (x0).num (x0).off (x0).cap hy2) <|
     zz 24 (fk37 (x0).num (Nat.add (x0).off ((x4).toNat*4))) <|
     zz 25 (lk38 hy3 (qw_ hy2)) <|
     zz 28 (xk3 (x0).num (x0).off (x0).cap hy7) <|
     zz 29 (fk37 (x0).num (Nat.add (x0).off ((x3).toNat*4))) <|
     zz 30 (lk38 hy8 (qw_ hy7)) <|
     k
    by_cases hy9:(y3_.2.2.2) > (y8_.2.2.2)
    ·rw[if_pos hy9] at h
     obtain rfl:=oI h
     exact runC2 hm (kW [0,1,2,7,8] [] 0 0) (k0 <|
      k5 <|
      k6 <|
      zz 31 (xdT hy9) <|
      ee) (by kernel_rfl)
    ·rw[if_neg hy9] at h
     obtain rfl:=oI h
     exact runC2 hm (kW [0,1,2,7,8] [] 0 0) (k0 <|
      k5 <|
      k6 <|
      zz 31 (xdF hy9) <|
      ee) (by kernel_rfl)
  ·rw[if_neg hy5] at h
   obtain rfl:=oI h
   exact runC2 hm (kW [0,1,2,7,8] [] 0 0) (k0 <|
    zz 17 (xbF hy5) <|
    ee) (by kernel_rfl)
 ·rw[if_neg hy1] at h
  obtain rfl:=oI h
  exact runC2 hm (kW [0,7] [] 0 0) (zz 5 (xdF hy1) <|
   ee) (by kernel_rfl)
theorem qoo_ (n:Nat){rnd:Option Nat}(x0:WL rw_iLii)(x1:Int)(x2:NL)(st:Int×Int)(r:Int)(h:qgc_ n x0 x1 x2 st=some r):qri_ rnd x0 x1 x2 st r:=
 CG.iter (b:=qx_ P 30 [false,false,true,false,true,true]) (by kernel_rfl) (body:=qby_ n x0 x1 x2) (S:=qez_ x0 x1 x2) (X:=qdd_ x0 x1 x2)
  (fun s s' h=>qkh_ n x0 x1 x2 s (.inl s') h)
  (fun s r h=>qkh_ n x0 x1 x2 s (.inr r) h)
  (fun r=>by intro hx; cases hx) h
def qcx_ (n:Nat)(a0:WL rw_iLii)(a1:Int)(a2:NL):Option (Int):=
 (qgc_ n a0 a1 a2 ((-1),0)).bind fun c1_=>
 if c1_<0 then
  some 0
 else
  if 0≤c1_∧c1_<(((a0).l.length:Nat):Int) then
   ((some (((a0).l).getD (c1_).toNat (0,nl0,0,0)))).bind fun c4_=>
   some (c4_.2.2.1)
  else none
theorem qjl_ (n:Nat)(a0:WL rw_iLii)(a1:Int)(a2:NL)(r:Int)(h:qcx_ n a0 a1 a2=some r):qtk_ a0 a1 a2 r:=by
 unfold qcx_ at h
 obtain⟨c1_,hc1,h⟩:=oB h
 have k0:=fun {A L l} (k:PL A L l)=>ww (qoo_ n (rnd:=none) a0 a1 a2 ((-1),0) c1_ hc1) <|
  ll 8 ⟨(kW [0,1,2,7,8] [] 0 0),(qdd_ a0 a1 a2 c1_).1,(qdd_ a0 a1 a2 c1_).2⟩ <|
  k
 by_cases hc2:c1_<0
 ·rw[if_pos hc2] at h
  obtain rfl:=oI h
  exact runF2 hm (kW [6] [] 0 0) (k0 <|
   zz 12 (xdT hc2) <|
   ee) (by kernel_rfl)
 ·rw[if_neg hc2] at h
  obtain⟨hc3,h⟩:=gd h
  obtain⟨c4_,hc4,h⟩:=oB h
  obtain rfl:=oI h
  exact runF2 hm (kW [6] [] 0 0) (k0 <|
   zz 12 (xdF hc2) <|
   zz 17 (xk3 (a0).num (a0).off (a0).cap hc3) <|
   zz 18 (fk39 (a0).num (Nat.add (a0).off ((c1_).toNat*4))) <|
   zz 19 (lk40 hc4 (qw_ hc3)) <|
   ee) (by kernel_rfl)

def qmv_ (a0:WL rw_iLii)(a1:W8)(a2 r:Int):Value:=match r with
 | o0=>(i6 o0)
def qmw_ (a0:WL rw_iLii)(a1:W8)(a2 r:Int):AH:=match r with
 | o0=>⟨sB [],0,0⟩
abbrev qt8_ (a0:WL rw_iLii)(a1:W8)(a2 r:Int):Prop:=Gv P (.func 12) [(wlV a0),(wlV a1),(i6 a2)] ⟨sB [],0,0⟩ (qmv_ a0 a1 a2 r) (qmw_ a0 a1 a2 r)
abbrev qt9_ (a0:WL rw_iLii)(a1:W8)(a2 r:Int)(ins outs:BL):CallA:=⟨0,ins,qmv_ a0 a1 a2 r,qmw_ a0 a1 a2 r,outs⟩
def qde_ (n:Nat)(a0:WL rw_iLii)(a1:W8)(a2:Int):Option (Int):=
 (qc_ n a1).bind fun c1_=>
 if c1_=0 then
  if a2<0 then
   some 0
  else
   if a2 ≥ (((a1).l.length:Nat):Int) then
    some 0
   else
    if 0≤a2∧a2<(((a1).l.length:Nat):Int) then
     ((some (((a1).l).getD (a2).toNat (0,0,0,0,0,0,nl0,0)))).bind fun c6_=>
     if (c6_.2.1)=3 then
      (qcj_ n a1 a2).bind fun c8_=>
      ((some (w64 ((((c8_).l.length:Nat):Int)-1)))).bind fun c9_=>
      if 0≤c9_ then
       if hc11:0≤(c9_).toNat∧(c9_).toNat≤(c8_).l.length then
        (qcx_ n a0 (c6_.1) (nlSub c8_ 0 (c9_).toNat hc11)).bind fun c12_=>
        some c12_
       else none
      else none
     else
      if (c6_.2.1)=5 then
       (qcj_ n a1 a2).bind fun c9_=>
       ((some (w64 ((((c9_).l.length:Nat):Int)-1)))).bind fun c10_=>
       if 0≤c10_ then
        if hc12:0≤(c10_).toNat∧(c10_).toNat≤(c9_).l.length then
         (qcx_ n a0 (c6_.1) (nlSub c9_ 0 (c10_).toNat hc12)).bind fun c13_=>
         some c13_
        else none
       else none
      else
       some 0
    else none
 else
  some 0
theorem qrj_ (n:Nat)(a0:WL rw_iLii)(a1:W8)(a2 r:Int)(h:qde_ n a0 a1 a2=some r):qt8_ a0 a1 a2 r:=by
 unfold qde_ at h
 obtain⟨c1_,hc1,h⟩:=oB h
 have k0:=fun {A L l} (k:PL A L l)=>yy 5 (.call (qbf_ a1 c1_ [] [])) <|
  ww (q0_ n a1 c1_ hc1) <|
  k
 by_cases hc2:c1_=0
 ·rw[if_pos hc2] at h
  have k2:=fun {A L l} (k:PL A L l)=>zz 6 (xnF hc2) <|
   k
  by_cases hc3:a2<0
  ·rw[if_pos hc3] at h
   obtain rfl:=oI h
   exact runF2 hm (kW [6] [] 0 0) (k0 <|
    k2 <|
    zz 9 (xdT hc3) <|
    ee) (by kernel_rfl)
  ·rw[if_neg hc3] at h
   have k3:=fun {A L l} (k:PL A L l)=>zz 9 (xdF hc3) <|
    k
   by_cases hc4:a2 ≥ (((a1).l.length:Nat):Int)
   ·rw[if_pos hc4] at h
    obtain rfl:=oI h
    exact runF2 hm (kW [6] [] 0 0) (k0 <|
     k2 <|
     k3 <|
     zz 15 (xdT hc4) <|
     ee) (by kernel_rfl)
   ·rw[if_neg hc4] at h
    obtain⟨hc5,h⟩:=gd h
    obtain⟨c6_,hc6,h⟩:=oB h
    have k4:=fun {A L l} (k:PL A L l)=>zz 15 (xdF hc4) <|
     zz 20 (xk1 (a1).num (a1).off (a1).cap hc5) <|
     zz 21 (fk6 (a1).num (Nat.add (a1).off ((a2).toNat*8))) <|
     zz 22 (lk7 hc6 (qw_ hc5)) <|
     k
    by_cases hc7:(c6_.2.1)=3
    ·rw[if_pos hc7] at h
     obtain⟨c8_,hc8,h⟩:=oB h
     obtain⟨c9_,hc9,h⟩:=oB h
     obtain⟨hc10,h⟩:=gd h
     obtain⟨hc11,h⟩:=gdD h
     replace h:=oB h
     obtain⟨c12_,hc12,h⟩:=h
     obtain rfl:=oI h
     exact runF2 hm (kW [6] [] 0 0) (k0 <|
      k2 <|
      k3 <|
      k4 <|
      zz 23 (xnF hc7) <|
      yy 37 (.call (qmu_ a1 a2 c8_ [] [])) <|
      ww (qke_ n a1 a2 c8_ hc8) <|
      zz 43 (xk1 (a1).num (a1).off (a1).cap hc5) <|
      zz 44 (fk28 (a1).num (Nat.add (a1).off ((a2).toNat*8))) <|
      zz 45 (lk29 hc6 (qw_ hc5)) <|
      zz 49 (xnm hc9) <|
      yy 50 (.pur (nlV (nlSub c8_ 0 (c9_).toNat hc11))) <|
      ww (p:=qki_ P 28 (nlV c8_) none (some (i6 c9_)) none Ax.h0=some ((nlV (nlSub c8_ 0 (c9_).toNat hc11)),Ax.h0)) (slNL (e:=3) c8_ (by kernel_rfl) (by kernel_rfl) rfl (bnd_int hc10) hc11) <|
      yy 51 (.call (ql4_ a0 (c6_.1) (nlSub c8_ 0 (c9_).toNat hc11) c12_ [] [])) <|
      ww (qjl_ n a0 (c6_.1) (nlSub c8_ 0 (c9_).toNat hc11) c12_ hc12) <|
      ee) (by kernel_rfl)
    ·rw[if_neg hc7] at h
     have k8:=fun {A L l} (k:PL A L l)=>zz 23 (xnT hc7) <|
      zz 27 (xk1 (a1).num (a1).off (a1).cap hc5) <|
      zz 28 (fk6 (a1).num (Nat.add (a1).off ((a2).toNat*8))) <|
      zz 29 (lk7 hc6 (qw_ hc5)) <|
      k
     by_cases hc8:(c6_.2.1)=5
     ·rw[if_pos hc8] at h
      obtain⟨c9_,hc9,h⟩:=oB h
      obtain⟨c10_,hc10,h⟩:=oB h
      obtain⟨hc11,h⟩:=gd h
      obtain⟨hc12,h⟩:=gdD h
      replace h:=oB h
      obtain⟨c13_,hc13,h⟩:=h
      obtain rfl:=oI h
      exact runF2 hm (kW [6] [] 0 0) (k0 <|
       k2 <|
       k3 <|
       k4 <|
       k8 <|
       zz 30 (xnF hc8) <|
       yy 37 (.call (qmu_ a1 a2 c9_ [] [])) <|
       ww (qke_ n a1 a2 c9_ hc9) <|
       zz 43 (xk1 (a1).num (a1).off (a1).cap hc5) <|
       zz 44 (fk28 (a1).num (Nat.add (a1).off ((a2).toNat*8))) <|
       zz 45 (lk29 hc6 (qw_ hc5)) <|
       zz 49 (xnm hc10) <|
       yy 50 (.pur (nlV (nlSub c9_ 0 (c10_).toNat hc12))) <|
       ww (p:=qki_ P 28 (nlV c9_) none (some (i6 c10_)) none Ax.h0=some ((nlV (nlSub c9_ 0 (c10_).toNat hc12)),Ax.h0)) (slNL (e:=3) c9_ (by kernel_rfl) (by kernel_rfl) rfl (bnd_int hc11) hc12) <|
       yy 51 (.call (ql4_ a0 (c6_.1) (nlSub c9_ 0 (c10_).toNat hc12) c13_ [] [])) <|
       ww (qjl_ n a0 (c6_.1) (nlSub c9_ 0 (c10_).toNat hc12) c13_ hc13) <|
       ee) (by kernel_rfl)
     ·rw[if_neg hc8] at h
      obtain rfl:=oI h
      exact runF2 hm (kW [6] [] 0 0) (k0 <|
       k2 <|
       k3 <|
       k4 <|
       k8 <|
       zz 30 (xnT hc8) <|
       ee) (by kernel_rfl)
 ·rw[if_neg hc2] at h
  obtain rfl:=oI h
  exact runF2 hm (kW [6] [] 0 0) (k0 <|
   zz 6 (xnT hc2) <|
   ee) (by kernel_rfl)

def qjm_ (g1 g3:Int):List Value:=[(wlV wA),(i6 g1),(wlV wB),(i6 g3)]
def qqd_ (g1 g3:Int)(r:Unit):Value:=match r with
 | _=>(bO true)
def qqe_ (g1 g3:Int)(r:Unit):AH:=match r with
 | _=>⟨sB [],0,0⟩
abbrev qqf_ (g1 g3:Int)(r:Unit):Prop:=Gv P (.func 3) (qjm_ g1 g3) ⟨sB [],0,0⟩ (qqd_ g1 g3 r) (qqe_ g1 g3 r)
def qdo_ (x0:W8)(x1:WL rw_iLii)(x2:Int)(x3:NL)(x4 x5 x6 x7:Int)(x8:NL)(st:Int):XSt:=match st with
 | x9=>(sT 174 [(0,(wlV x0)),(2,(wlV x1)),(3,(i6 x2)),(9,(nlV x3)),(14,(pN 0 0)),(16,(nlV x8)),(17,(i6 x9))],[],⟨sB [(0,(cB [(i6 x4),(i6 x5),(i6 x6),(i6 x7)] 38))],1,0⟩)
def qbc_ (x0:W8)(x1:WL rw_iLii)(x2:Int)(x3:NL)(x4 x5 x6 x7:Int)(x8:NL)(r:(Unit) ⊕ (Unit)):Ex×XSt:=match r with
 | .inl _=>(.ret,(sT 174 [(8,(bO true))],[],⟨sB [],0,0⟩))
 | .inr _=>(.exit 0,(sT 174 [(14,(pN 0 0))],[],⟨sB [(0,(cB [(i6 x4),(i6 x5),(i6 x6),(i6 x7)] 38))],1,0⟩))
abbrev qop_ (rd:Option Nat)(x0:W8)(x1:WL rw_iLii)(x2:Int)(x3:NL)(x4 x5 x6 x7:Int)(x8:NL)(st:Int)(r:(Unit) ⊕ (Unit)):Prop:=CG P rd (fnN P 3) 0 (qx_ P 3 [false,true,false,true,true,true,true,true,true,true,true,true,true]) (qdo_ x0 x1 x2 x3 x4 x5 x6 x7 x8 st) (qbc_ x0 x1 x2 x3 x4 x5 x6 x7 x8 r)
def qbd_ (n:Nat)(x0:W8)(x1:WL rw_iLii)(x2:Int)(x3:NL)(x4 x5 x6 x7:Int)(x8:NL)(st:Int):Option ((Int) ⊕ ((Unit) ⊕ (Unit))):=match st with
 | x9=>
  if x9<(((x8).l.length:Nat):Int) then
   if 0≤x9∧x9<(((x8).l.length:Nat):Int) then
    if (x9).toNat<((x8).l).length then
     ((some (((x8).l).getD (x9).toNat 0))).bind fun y4_=>
     if 0≤y4_∧y4_<(((x0).l.length:Nat):Int) then
      ((some (((x0).l).getD (y4_).toNat (0,0,0,0,0,0,nl0,0)))).bind fun y6_=>
      if x2<(y6_.2.2.1) then
       some (.inl (w64 (x9+1)))
      else
       if x2 ≥ (y6_.2.2.2.2.1) then
        some (.inl (w64 (x9+1)))
       else
        if x2 ≥ (y6_.2.2.2.1) then
         (qde_ n x1 x0 y4_).bind fun y10_=>
         if x6=y10_ then
          if 0≤y4_∧y4_<(((x3).l.length:Nat):Int) then
           if (y4_).toNat<((x3).l).length then
            ((some (((x3).l).getD (y4_).toNat 0))).bind fun y14_=>
            if x7=y14_ then
             some (.inr (.inl ()))
            else
             none
           else none
          else none
         else
          none
        else
         if x6=0 then
          if 0≤y4_∧y4_<(((x3).l.length:Nat):Int) then
           if (y4_).toNat<((x3).l).length then
            ((some (((x3).l).getD (y4_).toNat 0))).bind fun y13_=>
            if x7=y13_ then
             some (.inr (.inl ()))
            else
             none
           else none
          else none
         else
          none
     else none
    else none
   else none
  else
   some (.inr (.inr ()))
def qch_ (n:Nat)(x0:W8)(x1:WL rw_iLii)(x2:Int)(x3:NL)(x4 x5 x6 x7:Int)(x8:NL)(st:Int):Option ((Unit) ⊕ (Unit)):=iterM (qbd_ n x0 x1 x2 x3 x4 x5 x6 x7 x8) n st
theorem qhz_ (n:Nat){rnd:Option Nat}(x0:W8)(x1:WL rw_iLii)(x2:Int)(x3:NL)(x4 x5 x6 x7:Int)(x8:NL)(x9:Int)(o:(Int) ⊕ ((Unit) ⊕ (Unit)))(h:qbd_ n x0 x1 x2 x3 x4 x5 x6 x7 x8 x9=some o):CG P rnd (fnN P 3) 0 (qx_ P 3 [false,false,true,false,true,true,true,true,true,true,true,true,true,true]) (qdo_ x0 x1 x2 x3 x4 x5 x6 x7 x8 x9) (Sum.elim (fun s=>(.normal,qdo_ x0 x1 x2 x3 x4 x5 x6 x7 x8 s)) (fun r=>qbc_ x0 x1 x2 x3 x4 x5 x6 x7 x8 r) o):=by
 unfold qbd_ at h
 dsimp only at h
 by_cases hy1:x9<(((x8).l.length:Nat):Int)
 ·rw[if_pos hy1] at h
  obtain⟨hy2,h⟩:=gd h
  obtain⟨hy3,h⟩:=gd h
  obtain⟨y4_,hy4,h⟩:=oB h
  obtain⟨hy5,h⟩:=gd h
  obtain⟨y6_,hy6,h⟩:=oB h
  have k0:=fun {A L l} (k:PL A L l)=>zz 5 (xdT hy1) <|
   zz 13 (xk12 (Nat.add (x8).num 64) (x8).off (x8).cap hy2) <|
   zz 14 (nk13 hy4 hy3) <|
   zz 15 (xk1 (x0).num (x0).off (x0).cap hy5) <|
   zz 16 (lk2 hy6 (qw_ hy5)) <|
   k
  by_cases hy7:x2<(y6_.2.2.1)
  ·rw[if_pos hy7] at h
   obtain rfl:=oI h
   exact runC2 hm (kW [0,2,3,9,14,16,17] [(0,0,false)] 1 0) (k0 <|
    zz 24 (xdT hy7) <|
    ee) (by kernel_rfl)
  ·rw[if_neg hy7] at h
   have k5:=fun {A L l} (k:PL A L l)=>zz 24 (xdF hy7) <|
    k
   by_cases hy8:x2 ≥ (y6_.2.2.2.2.1)
   ·rw[if_pos hy8] at h
    obtain rfl:=oI h
    exact runC2 hm (kW [0,2,3,9,14,16,17] [(0,0,false)] 1 0) (k0 <|
     k5 <|
     zz 29 (xdT hy8) <|
     ee) (by kernel_rfl)
   ·rw[if_neg hy8] at h
    have k6:=fun {A L l} (k:PL A L l)=>zz 29 (xdF hy8) <|
     k
    by_cases hy9:x2 ≥ (y6_.2.2.2.1)
    ·rw[if_pos hy9] at h
     obtain⟨y10_,hy10,h⟩:=oB h
     have k7:=fun {A L l} (k:PL A L l)=>zz 39 (xdT hy9) <|
      zz 45 (xk12 (Nat.add (x8).num 64) (x8).off (x8).cap hy2) <|
      zz 46 (nk13 hy4 hy3) <|
      yy 47 (.call (qt9_ x1 x0 y4_ y10_ [] [])) <|
      ww (qrj_ n x1 x0 y4_ y10_ hy10) <|
      k
     by_cases hy11:x6=y10_
     ·rw[if_pos hy11] at h
      obtain⟨hy12,h⟩:=gd h
      obtain⟨hy13,h⟩:=gd h
      obtain⟨y14_,hy14,h⟩:=oB h
      have k12:=fun {A L l} (k:PL A L l)=>zz 53 (xeT hy11) <|
       zz 60 (xk12 (Nat.add (x8).num 64) (x8).off (x8).cap hy2) <|
       zz 61 (nk13 hy4 hy3) <|
       zz 62 (xk12 (Nat.add (x3).num 64) (x3).off (x3).cap hy12) <|
       zz 63 (nk13 hy14 hy13) <|
       k
      by_cases hy15:x7=y14_
      ·rw[if_pos hy15] at h
       obtain rfl:=oI h
       exact runC2 hm (kW [8] [] 0 0) (k0 <|
        k5 <|
        k6 <|
        k7 <|
        k12 <|
        zz 64 (xeT hy15) <|
        ee) (by kernel_rfl)
      ·rw[if_neg hy15] at h
       cases h
     ·rw[if_neg hy11] at h
      cases h
    ·rw[if_neg hy9] at h
     have k7:=fun {A L l} (k:PL A L l)=>zz 39 (xdF hy9) <|
      k
     by_cases hy10:x6=0
     ·rw[if_pos hy10] at h
      obtain⟨hy11,h⟩:=gd h
      obtain⟨hy12,h⟩:=gd h
      obtain⟨y13_,hy13,h⟩:=oB h
      have k8:=fun {A L l} (k:PL A L l)=>zz 45 (xeT hy10) <|
       zz 52 (xk12 (Nat.add (x8).num 64) (x8).off (x8).cap hy2) <|
       zz 53 (nk13 hy4 hy3) <|
       zz 54 (xk12 (Nat.add (x3).num 64) (x3).off (x3).cap hy11) <|
       zz 55 (nk13 hy13 hy12) <|
       k
      by_cases hy14:x7=y13_
      ·rw[if_pos hy14] at h
       obtain rfl:=oI h
       exact runC2 hm (kW [8] [] 0 0) (k0 <|
        k5 <|
        k6 <|
        k7 <|
        k8 <|
        zz 56 (xeT hy14) <|
        ee) (by kernel_rfl)
      ·rw[if_neg hy14] at h
       cases h
     ·rw[if_neg hy10] at h
      cases h
 ·rw[if_neg hy1] at h
  obtain rfl:=oI h
  exact runC2 hm (kW [14] [(0,0,false)] 1 0) (zz 5 (xdF hy1) <|
   ee) (by kernel_rfl)
theorem qgj_ (n:Nat){rnd:Option Nat}(x0:W8)(x1:WL rw_iLii)(x2:Int)(x3:NL)(x4 x5 x6 x7:Int)(x8:NL)(st:Int)(r:(Unit) ⊕ (Unit))(h:qch_ n x0 x1 x2 x3 x4 x5 x6 x7 x8 st=some r):qop_ rnd x0 x1 x2 x3 x4 x5 x6 x7 x8 st r:=
 CG.iter (b:=qx_ P 3 [false,false,true,false,true,true,true,true,true,true,true,true,true,true]) (by kernel_rfl) (body:=qbd_ n x0 x1 x2 x3 x4 x5 x6 x7 x8) (S:=qdo_ x0 x1 x2 x3 x4 x5 x6 x7 x8) (X:=qbc_ x0 x1 x2 x3 x4 x5 x6 x7 x8)
  (fun s s' h=>qhz_ n x0 x1 x2 x3 x4 x5 x6 x7 x8 s (.inl s') h)
  (fun s r h=>qhz_ n x0 x1 x2 x3 x4 x5 x6 x7 x8 s (.inr r) h)
  (fun r=>by intro hx; rcases r with _ | _<;>cases hx) h
def qee_ (n:Nat)(g1 g3:Int):Option (Unit):=
 (qix_ n).bind fun _=>
 (qfg_ n wA wB).bind fun c2_=>
 if c2_=true then
  (qc_ n wA).bind fun c4_=>
  if c4_=0 then
   if 0≤(0:Int)∧(0:Int)<(((wA).l.length:Nat):Int) then
    ((some (((wA).l).getD ((0:Int)).toNat (0,0,0,0,0,0,nl0,0)))).bind fun c7_=>
    if (c7_.2.2.1)=0 then
     if (c7_.2.2.2.2.1)=0 then
      some ()
     else
      (qct_ n wA 1 g1).bind fun c10_=>
      (qfi_ n g3 (c7_.2.2.2.2.1)).bind fun c11_=>
      (qhi_ n wA c10_ wB 0 (c7_.2.2.2.2.1)).bind fun t=>match t with
      | (c12_0,c12_1)=>
       (qhi_ n wA c10_ wB c11_ (w64 (c11_+1))).bind fun t=>match t with
       | (c13_0,c13_1)=>
        (qqc_ n c12_0 c11_).bind fun t=>match t with
        | (c14_0,c14_1,c14_2,c14_3,c14_4)=>
         if c12_1=0 then
          if c13_1=0 then
           if c14_4=true then
            if (((c13_0).l.length:Nat):Int)=1 then
             if 0≤(0:Int)∧(0:Int)<(((c13_0).l.length:Nat):Int) then
              ((some (((c13_0).l).getD ((0:Int)).toNat (0,0,0,0)))).bind fun c20_=>
              if (c20_.2.2.1)=c14_2 then
               if (c20_.2.2.2)=c14_3 then
                (qb1_ n wA).bind fun c23_=>
                match qch_ n wA wB c11_ c10_ c14_0 c14_1 c14_2 c14_3 c23_ 0 with
                | none=>none
                | some (.inl _)=>
                 some ()
                | some (.inr _)=>
                 if c14_2=0 then
                  if c14_3=1 then
                   some ()
                  else
                   none
                 else
                  none
               else
                none
              else
               none
             else none
            else
             none
           else
            none
          else
           none
         else
          none
    else
     some ()
   else none
  else
   some ()
 else
  some ()
theorem qn0_ (n:Nat)(g1 g3:Int)(r:Unit)(h:qee_ n g1 g3=some r):qqf_ g1 g3 r:=by
 unfold qee_ at h
 obtain⟨_,hc1,h⟩:=oB h
 obtain⟨c2_,hc2,h⟩:=oB h
 have k0:=fun {A L l} (k:PL A L l)=>yy 4 (.call ⟨0,[],(Value.bool true),Ax.h0,[]⟩) <|
  ww (qrx_ n  () hc1) <|
  yy 11 (.call (qss_ wA wB c2_ [] [])) <|
  ww (qps_ n wA wB c2_ hc2) <|
  k
 by_cases hc3:c2_=true
 ·rw[if_pos hc3] at h
  obtain⟨c4_,hc4,h⟩:=oB h
  have k4:=fun {A L l} (k:PL A L l)=>yy 12 (vf) <|
   ww (p:=(Value.bool (!c2_))=(Value.bool false)) (vBn hc3) <|
   yy 15 (.call (qbf_ wA c4_ [] [])) <|
   ww (q0_ n wA c4_ hc4) <|
   k
  by_cases hc5:c4_=0
  ·rw[if_pos hc5] at h
   obtain⟨hc6,h⟩:=gd h
   obtain⟨c7_,hc7,h⟩:=oB h
   have k8:=fun {A L l} (k:PL A L l)=>zz 16 (xnF hc5) <|
    zz 20 (xk1 (wA).num (wA).off (wA).cap hc6) <|
    zz 21 (fk8 (wA).num (Nat.add (wA).off (((0:Int)).toNat*8))) <|
    zz 22 (lk9 hc7 (qw_ hc6)) <|
    k
   by_cases hc8:(c7_.2.2.1)=0
   ·rw[if_pos hc8] at h
    have k12:=fun {A L l} (k:PL A L l)=>zz 23 (xnF hc8) <|
     zz 27 (xk1 (wA).num (wA).off (wA).cap hc6) <|
     zz 28 (fk14 (wA).num (Nat.add (wA).off (((0:Int)).toNat*8))) <|
     zz 29 (lk15 hc7 (qw_ hc6)) <|
     k
    by_cases hc9:(c7_.2.2.2.2.1)=0
    ·rw[if_pos hc9] at h
     obtain rfl:=oI h
     exact runF2 hm (kW [8] [] 0 0) (k0 <|
      k4 <|
      k8 <|
      k12 <|
      zz 30 (xeT hc9) <|
      ee) (by kernel_rfl)
    ·rw[if_neg hc9] at h
     obtain⟨c10_,hc10,h⟩:=oB h
     obtain⟨c11_,hc11,h⟩:=oB h
     obtain⟨⟨c12_0,c12_1⟩,hc12,h⟩:=oB h
     dsimp only at h
     obtain⟨⟨c13_0,c13_1⟩,hc13,h⟩:=oB h
     dsimp only at h
     obtain⟨⟨c14_0,c14_1,c14_2,c14_3,c14_4⟩,hc14,h⟩:=oB h
     dsimp only at h
     have k16:=fun {A L l} (k:PL A L l)=>zz 30 (xeF hc9) <|
      yy 36 (.call (qs2_ wA 1 g1 c10_ [] [])) <|
      ww (qpy_ n wA 1 g1 c10_ hc10) <|
      zz 41 (xk1 (wA).num (wA).off (wA).cap hc6) <|
      zz 42 (fk14 (wA).num (Nat.add (wA).off (((0:Int)).toNat*8))) <|
      zz 43 (lk15 hc7 (qw_ hc6)) <|
      yy 44 (.call (qvz_ g3 (c7_.2.2.2.2.1) c11_ [] [])) <|
      ww (qs3_ n g3 (c7_.2.2.2.2.1) c11_ hc11) <|
      zz 51 (xk1 (wA).num (wA).off (wA).cap hc6) <|
      zz 52 (fk14 (wA).num (Nat.add (wA).off (((0:Int)).toNat*8))) <|
      zz 53 (lk15 hc7 (qw_ hc6)) <|
      yy 54 (.call (q05_ wA c10_ wB 0 (c7_.2.2.2.2.1) (c12_0,c12_1) [] [])) <|
      ww (qwe_ n wA c10_ wB 0 (c7_.2.2.2.2.1) (c12_0,c12_1) hc12) <|
      yy 67 (.call (q05_ wA c10_ wB c11_ (w64 (c11_+1)) (c13_0,c13_1) [] [])) <|
      ww (qwe_ n wA c10_ wB c11_ (w64 (c11_+1)) (c13_0,c13_1) hc13) <|
      yy 76 (.call (C_paintAtq1 c12_0 c11_ (c14_0,c14_1,c14_2,c14_3,c14_4) [] [(0,0,false)])) <|
      ww (q12_ n c12_0 c11_ (c14_0,c14_1,c14_2,c14_3,c14_4) hc14) <|
      k
     by_cases hc15:c12_1=0
     ·rw[if_pos hc15] at h
      have k33:=fun {A L l} (k:PL A L l)=>zz 86 (xnF hc15) <|
       k
      by_cases hc16:c13_1=0
      ·rw[if_pos hc16] at h
       have k34:=fun {A L l} (k:PL A L l)=>zz 89 (xnF hc16) <|
        k
       by_cases hc17:c14_4=true
       ·rw[if_pos hc17] at h
        have k35:=fun {A L l} (k:PL A L l)=>yy 93 (vf) <|
         ww (p:=(Value.bool (!c14_4))=(Value.bool false)) (vBn hc17) <|
         k
        by_cases hc18:(((c13_0).l.length:Nat):Int)=1
        ·rw[if_pos hc18] at h
         obtain⟨hc19,h⟩:=gd h
         obtain⟨c20_,hc20,h⟩:=oB h
         have k37:=fun {A L l} (k:PL A L l)=>zz 98 (xnF hc18) <|
          zz 102 (xk31 (c13_0).num (c13_0).off (c13_0).cap hc19) <|
          zz 103 (fk33 (c13_0).num (Nat.add (c13_0).off (((0:Int)).toNat*4))) <|
          zz 104 (lk34 hc20 (qw_ hc19)) <|
          k
         by_cases hc21:(c20_.2.2.1)=c14_2
         ·rw[if_pos hc21] at h
          have k41:=fun {A L l} (k:PL A L l)=>zz 107 (xnF hc21) <|
           zz 111 (xk31 (c13_0).num (c13_0).off (c13_0).cap hc19) <|
           zz 112 (fk35 (c13_0).num (Nat.add (c13_0).off (((0:Int)).toNat*4))) <|
           zz 113 (lk36 hc20 (qw_ hc19)) <|
           k
          by_cases hc22:(c20_.2.2.2)=c14_3
          ·rw[if_pos hc22] at h
           obtain⟨c23_,hc23,h⟩:=oB h
           have k45:=fun {A L l} (k:PL A L l)=>zz 116 (xnF hc22) <|
            yy 121 (.call (qkm_ wA c23_ [] [])) <|
            ww (qh5_ n wA c23_ hc23) <|
            k
           rcases hc24:qch_ n wA wB c11_ c10_ c14_0 c14_1 c14_2 c14_3 c23_ 0 with _ | (⟨⟩ | ⟨⟩)
           ·rw[hc24] at h; cases h
           ·rw[hc24] at h
            dsimp only at h
            obtain rfl:=oI h
            exact runF2 hm (kW [8] [] 0 0) (k0 <|
             k4 <|
             k8 <|
             k12 <|
             k16 <|
             k33 <|
             k34 <|
             k35 <|
             k37 <|
             k41 <|
             k45 <|
             ww (qgj_ n (rnd:=none) wA wB c11_ c10_ c14_0 c14_1 c14_2 c14_3 c23_ 0 (.inl ()) hc24) <|
             ll 127 ⟨(kW [0,2,3,9,14,16,17] [(0,1,false)] 1 0),(qbc_ wA wB c11_ c10_ c14_0 c14_1 c14_2 c14_3 c23_ (.inl ())).1,(qbc_ wA wB c11_ c10_ c14_0 c14_1 c14_2 c14_3 c23_ (.inl ())).2⟩ <|
             ee) (by kernel_rfl)
           ·rw[hc24] at h
            dsimp only at h
            have k48:=fun {A L l} (k:PL A L l)=>ww (qgj_ n (rnd:=none) wA wB c11_ c10_ c14_0 c14_1 c14_2 c14_3 c23_ 0 (.inr ()) hc24) <|
             ll 127 ⟨(kW [0,2,3,9,14,16,17] [(0,1,false)] 1 0),(qbc_ wA wB c11_ c10_ c14_0 c14_1 c14_2 c14_3 c23_ (.inr ())).1,(qbc_ wA wB c11_ c10_ c14_0 c14_1 c14_2 c14_3 c23_ (.inr ())).2⟩ <|
             k
            by_cases hc25:c14_2=0
            ·rw[if_pos hc25] at h
             have k50:=fun {A L l} (k:PL A L l)=>zz 131 (xeT hc25) <|
              k
             by_cases hc26:c14_3=1
             ·rw[if_pos hc26] at h
              obtain rfl:=oI h
              exact runF2 hm (kW [8] [] 0 0) (k0 <|
               k4 <|
               k8 <|
               k12 <|
               k16 <|
               k33 <|
               k34 <|
               k35 <|
               k37 <|
               k41 <|
               k45 <|
               k48 <|
               k50 <|
               zz 135 (xeT hc26) <|
               ee) (by kernel_rfl)
             ·rw[if_neg hc26] at h
              cases h
            ·rw[if_neg hc25] at h
             cases h
          ·rw[if_neg hc22] at h
           cases h
         ·rw[if_neg hc21] at h
          cases h
        ·rw[if_neg hc18] at h
         cases h
       ·rw[if_neg hc17] at h
        cases h
      ·rw[if_neg hc16] at h
       cases h
     ·rw[if_neg hc15] at h
      cases h
   ·rw[if_neg hc8] at h
    obtain rfl:=oI h
    exact runF2 hm (kW [8] [] 0 0) (k0 <|
     k4 <|
     k8 <|
     zz 23 (xnT hc8) <|
     ee) (by kernel_rfl)
  ·rw[if_neg hc5] at h
   obtain rfl:=oI h
   exact runF2 hm (kW [8] [] 0 0) (k0 <|
    k4 <|
    zz 16 (xnT hc5) <|
    ee) (by kernel_rfl)
 ·rw[if_neg hc3] at h
  obtain rfl:=oI h
  exact runF2 hm (kW [8] [] 0 0) (k0 <|
   yy 12 (vt) <|
   ww (p:=(Value.bool (!c2_))=(Value.bool true)) (vBn (Bool.eq_false_iff.2 hc3)) <|
   ee) (by kernel_rfl)

end Go.Proofs.YthlikofobjhcoaaGreat.ptb28
