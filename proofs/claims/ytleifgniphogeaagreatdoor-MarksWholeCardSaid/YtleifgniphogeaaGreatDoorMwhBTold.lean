/-
  What functions do, told by pure functions. No condition.
-/
import Derived.Test.YtleifgniphogeaaGreatDoorMwhATold
set_option linter.unusedSimpArgs false
set_option linter.unusedVariables false
set_option linter.unusedSectionVars false
set_option linter.unnecessarySimpa false
set_option maxRecDepth 100000
noncomputable section
namespace Go.Proofs.YtleifgniphogeaaGreatDoor.mwh19
open Go Go.Proofs.YtleifgniphogeaaGreatDoor Ax
variable [Args]
def qrd_ (a0 a1 a2 a3 a4 a5:Int)(a6:NL)(a7:Int):List Value:=[(Value.agg #[(i6 a0),(i6 a1),(i6 a2),(i6 a3),(i6 a4),(i6 a5),(nlV a6),(Value.int .u64 a7)])]
def qre_ (a0 a1 a2 a3 a4 a5:Int)(a6:NL)(a7:Int):AH:=⟨sB [],0,0⟩
def qnq_ (a0 a1 a2 a3 a4 a5:Int)(a6:NL)(a7:Int)(r:Bool):Value:=match r with
 | o0=>(bO o0)
def qnr_ (a0 a1 a2 a3 a4 a5:Int)(a6:NL)(a7:Int)(r:Bool):AH:=match r with
 | o0=>⟨sB [],0,0⟩
abbrev G_treesoundq1 (a0 a1 a2 a3 a4 a5:Int)(a6:NL)(a7:Int)(r:Bool):Prop:=Gv P (.func 64) (qrd_ a0 a1 a2 a3 a4 a5 a6 a7) (qre_ a0 a1 a2 a3 a4 a5 a6 a7) (qnq_ a0 a1 a2 a3 a4 a5 a6 a7 r) (qnr_ a0 a1 a2 a3 a4 a5 a6 a7 r)
abbrev C_treesoundq1 (a0 a1 a2 a3 a4 a5:Int)(a6:NL)(a7:Int)(r:Bool)(ins outs:BL):CallA:=⟨0,ins,qnq_ a0 a1 a2 a3 a4 a5 a6 a7 r,qnr_ a0 a1 a2 a3 a4 a5 a6 a7 r,outs⟩
def qhb_ (n:Nat)(a0 a1 a2 a3 a4 a5:Int)(a6:NL)(a7:Int):Option (Bool):=
 if a2<0 then
  some false
 else
  if a2 > a4 then
   some false
  else
   if a5≤a2 then
    some false
   else
    if a1=1 then
     if a3=a2 then
      some true
     else
      some false
    else
     if a1=2 then
      if a3=a2 then
       some true
      else
       some false
     else
      if a1=4 then
       if a3=a2 then
        if a4=a2 then
         if (((a6).l.length:Nat):Int)=0 then
          some true
         else
          some false
        else
         some false
       else
        some false
      else
       if a1=3 then
        if a3 ≥ a2 then
         if a3≤a4 then
          if (((a6).l.length:Nat):Int)=0 then
           some true
          else
           some false
         else
          some false
        else
         some false
       else
        if a1=5 then
         if a3 ≥ a2 then
          if a3≤a4 then
           if (((a6).l.length:Nat):Int)=0 then
            some true
           else
            some false
          else
           some false
         else
          some false
        else
         if a1=6 then
          if a3 ≥ a2 then
           if a3≤a4 then
            if (((a6).l.length:Nat):Int)=0 then
             some true
            else
             some false
           else
            some false
          else
           some false
         else
          some false
theorem qtl_ (n:Nat)(a0 a1 a2 a3 a4 a5:Int)(a6:NL)(a7:Int)(r:Bool)(h:qhb_ n a0 a1 a2 a3 a4 a5 a6 a7=some r):Gv P (.func 64) (qrd_ a0 a1 a2 a3 a4 a5 a6 a7) (qre_ a0 a1 a2 a3 a4 a5 a6 a7) (qnq_ a0 a1 a2 a3 a4 a5 a6 a7 r) (qnr_ a0 a1 a2 a3 a4 a5 a6 a7 r):=by
 unfold qhb_ at h
 by_cases hc1:a2<0
 ·rw[if_pos hc1] at h
  obtain rfl:=oI h
  exact runF2 hm ⟨[2],[],0,0,[],false,[],[],[]⟩ (zz 7 (xdT hc1) <|
   ee) (by kernel_rfl)
 ·rw[if_neg hc1] at h
  have k0:=fun {A L l} (k:PL A L l)=>zz 7 (xdF hc1) <|
   k
  by_cases hc2:a2 > a4
  ·rw[if_pos hc2] at h
   obtain rfl:=oI h
   exact runF2 hm ⟨[2],[],0,0,[],false,[],[],[]⟩ (k0 <|
    zz 13 (xdT hc2) <|
    ee) (by kernel_rfl)
  ·rw[if_neg hc2] at h
   have k1:=fun {A L l} (k:PL A L l)=>zz 13 (xdF hc2) <|
    k
   by_cases hc3:a5≤a2
   ·rw[if_pos hc3] at h
    obtain rfl:=oI h
    exact runF2 hm ⟨[2],[],0,0,[],false,[],[],[]⟩ (k0 <|
     k1 <|
     zz 20 (xdT hc3) <|
     ee) (by kernel_rfl)
   ·rw[if_neg hc3] at h
    have k2:=fun {A L l} (k:PL A L l)=>zz 20 (xdF hc3) <|
     k
    by_cases hc4:a1=1
    ·rw[if_pos hc4] at h
     have k3:=fun {A L l} (k:PL A L l)=>zz 30 (xeT hc4) <|
      k
     by_cases hc5:a3=a2
     ·rw[if_pos hc5] at h
      obtain rfl:=oI h
      exact runF2 hm ⟨[2],[],0,0,[],false,[],[],[]⟩ (k0 <|
       k1 <|
       k2 <|
       k3 <|
       zz 39 (xeT hc5) <|
       ee) (by kernel_rfl)
     ·rw[if_neg hc5] at h
      obtain rfl:=oI h
      exact runF2 hm ⟨[2],[],0,0,[],false,[],[],[]⟩ (k0 <|
       k1 <|
       k2 <|
       k3 <|
       zz 39 (xeF hc5) <|
       ee) (by kernel_rfl)
    ·rw[if_neg hc4] at h
     have k3:=fun {A L l} (k:PL A L l)=>zz 30 (xeF hc4) <|
      k
     by_cases hc5:a1=2
     ·rw[if_pos hc5] at h
      have k4:=fun {A L l} (k:PL A L l)=>zz 33 (xeT hc5) <|
       k
      by_cases hc6:a3=a2
      ·rw[if_pos hc6] at h
       obtain rfl:=oI h
       exact runF2 hm ⟨[2],[],0,0,[],false,[],[],[]⟩ (k0 <|
        k1 <|
        k2 <|
        k3 <|
        k4 <|
        zz 41 (xeT hc6) <|
        ee) (by kernel_rfl)
      ·rw[if_neg hc6] at h
       obtain rfl:=oI h
       exact runF2 hm ⟨[2],[],0,0,[],false,[],[],[]⟩ (k0 <|
        k1 <|
        k2 <|
        k3 <|
        k4 <|
        zz 41 (xeF hc6) <|
        ee) (by kernel_rfl)
     ·rw[if_neg hc5] at h
      have k4:=fun {A L l} (k:PL A L l)=>zz 33 (xeF hc5) <|
       k
      by_cases hc6:a1=4
      ·rw[if_pos hc6] at h
       have k5:=fun {A L l} (k:PL A L l)=>zz 37 (xeT hc6) <|
        k
       by_cases hc7:a3=a2
       ·rw[if_pos hc7] at h
        have k6:=fun {A L l} (k:PL A L l)=>zz 45 (xeT hc7) <|
         k
        by_cases hc8:a4=a2
        ·rw[if_pos hc8] at h
         have k7:=fun {A L l} (k:PL A L l)=>zz 51 (xeT hc8) <|
          k
         by_cases hc9:(((a6).l.length:Nat):Int)=0
         ·rw[if_pos hc9] at h
          obtain rfl:=oI h
          exact runF2 hm ⟨[2],[],0,0,[],false,[],[],[]⟩ (k0 <|
           k1 <|
           k2 <|
           k3 <|
           k4 <|
           k5 <|
           k6 <|
           k7 <|
           zz 57 (xeT hc9) <|
           ee) (by kernel_rfl)
         ·rw[if_neg hc9] at h
          obtain rfl:=oI h
          exact runF2 hm ⟨[2],[],0,0,[],false,[],[],[]⟩ (k0 <|
           k1 <|
           k2 <|
           k3 <|
           k4 <|
           k5 <|
           k6 <|
           k7 <|
           zz 57 (xeF hc9) <|
           ee) (by kernel_rfl)
        ·rw[if_neg hc8] at h
         obtain rfl:=oI h
         exact runF2 hm ⟨[2],[],0,0,[],false,[],[],[]⟩ (k0 <|
          k1 <|
          k2 <|
          k3 <|
          k4 <|
          k5 <|
          k6 <|
          zz 51 (xeF hc8) <|
          ee) (by kernel_rfl)
       ·rw[if_neg hc7] at h
        obtain rfl:=oI h
        exact runF2 hm ⟨[2],[],0,0,[],false,[],[],[]⟩ (k0 <|
         k1 <|
         k2 <|
         k3 <|
         k4 <|
         k5 <|
         zz 45 (xeF hc7) <|
         ee) (by kernel_rfl)
      ·rw[if_neg hc6] at h
       have k5:=fun {A L l} (k:PL A L l)=>zz 37 (xeF hc6) <|
        k
       by_cases hc7:a1=3
       ·rw[if_pos hc7] at h
        have k6:=fun {A L l} (k:PL A L l)=>zz 42 (xeT hc7) <|
         k
        by_cases hc8:a3 ≥ a2
        ·rw[if_pos hc8] at h
         have k7:=fun {A L l} (k:PL A L l)=>zz 51 (xdT hc8) <|
          k
         by_cases hc9:a3≤a4
         ·rw[if_pos hc9] at h
          have k8:=fun {A L l} (k:PL A L l)=>zz 57 (xdT hc9) <|
           k
          by_cases hc10:(((a6).l.length:Nat):Int)=0
          ·rw[if_pos hc10] at h
           obtain rfl:=oI h
           exact runF2 hm ⟨[2],[],0,0,[],false,[],[],[]⟩ (k0 <|
            k1 <|
            k2 <|
            k3 <|
            k4 <|
            k5 <|
            k6 <|
            k7 <|
            k8 <|
            zz 63 (xeT hc10) <|
            ee) (by kernel_rfl)
          ·rw[if_neg hc10] at h
           obtain rfl:=oI h
           exact runF2 hm ⟨[2],[],0,0,[],false,[],[],[]⟩ (k0 <|
            k1 <|
            k2 <|
            k3 <|
            k4 <|
            k5 <|
            k6 <|
            k7 <|
            k8 <|
            zz 63 (xeF hc10) <|
            ee) (by kernel_rfl)
         ·rw[if_neg hc9] at h
          obtain rfl:=oI h
          exact runF2 hm ⟨[2],[],0,0,[],false,[],[],[]⟩ (k0 <|
           k1 <|
           k2 <|
           k3 <|
           k4 <|
           k5 <|
           k6 <|
           k7 <|
           zz 57 (xdF hc9) <|
           ee) (by kernel_rfl)
        ·rw[if_neg hc8] at h
         obtain rfl:=oI h
         exact runF2 hm ⟨[2],[],0,0,[],false,[],[],[]⟩ (k0 <|
          k1 <|
          k2 <|
          k3 <|
          k4 <|
          k5 <|
          k6 <|
          zz 51 (xdF hc8) <|
          ee) (by kernel_rfl)
       ·rw[if_neg hc7] at h
        have k6:=fun {A L l} (k:PL A L l)=>zz 42 (xeF hc7) <|
         k
        by_cases hc8:a1=5
        ·rw[if_pos hc8] at h
         have k7:=fun {A L l} (k:PL A L l)=>zz 46 (xeT hc8) <|
          k
         by_cases hc9:a3 ≥ a2
         ·rw[if_pos hc9] at h
          have k8:=fun {A L l} (k:PL A L l)=>zz 55 (xdT hc9) <|
           k
          by_cases hc10:a3≤a4
          ·rw[if_pos hc10] at h
           have k9:=fun {A L l} (k:PL A L l)=>zz 61 (xdT hc10) <|
            k
           by_cases hc11:(((a6).l.length:Nat):Int)=0
           ·rw[if_pos hc11] at h
            obtain rfl:=oI h
            exact runF2 hm ⟨[2],[],0,0,[],false,[],[],[]⟩ (k0 <|
             k1 <|
             k2 <|
             k3 <|
             k4 <|
             k5 <|
             k6 <|
             k7 <|
             k8 <|
             k9 <|
             zz 67 (xeT hc11) <|
             ee) (by kernel_rfl)
           ·rw[if_neg hc11] at h
            obtain rfl:=oI h
            exact runF2 hm ⟨[2],[],0,0,[],false,[],[],[]⟩ (k0 <|
             k1 <|
             k2 <|
             k3 <|
             k4 <|
             k5 <|
             k6 <|
             k7 <|
             k8 <|
             k9 <|
             zz 67 (xeF hc11) <|
             ee) (by kernel_rfl)
          ·rw[if_neg hc10] at h
           obtain rfl:=oI h
           exact runF2 hm ⟨[2],[],0,0,[],false,[],[],[]⟩ (k0 <|
            k1 <|
            k2 <|
            k3 <|
            k4 <|
            k5 <|
            k6 <|
            k7 <|
            k8 <|
            zz 61 (xdF hc10) <|
            ee) (by kernel_rfl)
         ·rw[if_neg hc9] at h
          obtain rfl:=oI h
          exact runF2 hm ⟨[2],[],0,0,[],false,[],[],[]⟩ (k0 <|
           k1 <|
           k2 <|
           k3 <|
           k4 <|
           k5 <|
           k6 <|
           k7 <|
           zz 55 (xdF hc9) <|
           ee) (by kernel_rfl)
        ·rw[if_neg hc8] at h
         have k7:=fun {A L l} (k:PL A L l)=>zz 46 (xeF hc8) <|
          k
         by_cases hc9:a1=6
         ·rw[if_pos hc9] at h
          have k8:=fun {A L l} (k:PL A L l)=>zz 49 (xeT hc9) <|
           k
          by_cases hc10:a3 ≥ a2
          ·rw[if_pos hc10] at h
           have k9:=fun {A L l} (k:PL A L l)=>zz 57 (xdT hc10) <|
            k
           by_cases hc11:a3≤a4
           ·rw[if_pos hc11] at h
            have k10:=fun {A L l} (k:PL A L l)=>zz 63 (xdT hc11) <|
             k
            by_cases hc12:(((a6).l.length:Nat):Int)=0
            ·rw[if_pos hc12] at h
             obtain rfl:=oI h
             exact runF2 hm ⟨[2],[],0,0,[],false,[],[],[]⟩ (k0 <|
              k1 <|
              k2 <|
              k3 <|
              k4 <|
              k5 <|
              k6 <|
              k7 <|
              k8 <|
              k9 <|
              k10 <|
              zz 69 (xeT hc12) <|
              ee) (by kernel_rfl)
            ·rw[if_neg hc12] at h
             obtain rfl:=oI h
             exact runF2 hm ⟨[2],[],0,0,[],false,[],[],[]⟩ (k0 <|
              k1 <|
              k2 <|
              k3 <|
              k4 <|
              k5 <|
              k6 <|
              k7 <|
              k8 <|
              k9 <|
              k10 <|
              zz 69 (xeF hc12) <|
              ee) (by kernel_rfl)
           ·rw[if_neg hc11] at h
            obtain rfl:=oI h
            exact runF2 hm ⟨[2],[],0,0,[],false,[],[],[]⟩ (k0 <|
             k1 <|
             k2 <|
             k3 <|
             k4 <|
             k5 <|
             k6 <|
             k7 <|
             k8 <|
             k9 <|
             zz 63 (xdF hc11) <|
             ee) (by kernel_rfl)
          ·rw[if_neg hc10] at h
           obtain rfl:=oI h
           exact runF2 hm ⟨[2],[],0,0,[],false,[],[],[]⟩ (k0 <|
            k1 <|
            k2 <|
            k3 <|
            k4 <|
            k5 <|
            k6 <|
            k7 <|
            k8 <|
            zz 57 (xdF hc10) <|
            ee) (by kernel_rfl)
         ·rw[if_neg hc9] at h
          obtain rfl:=oI h
          exact runF2 hm ⟨[2],[],0,0,[],false,[],[],[]⟩ (k0 <|
           k1 <|
           k2 <|
           k3 <|
           k4 <|
           k5 <|
           k6 <|
           k7 <|
           zz 49 (xeF hc9) <|
           ee) (by kernel_rfl)

def qrf_ (a0:List R8)(a1:Nat):List Value:=[(sN 0 0 a1 (Nat.add big 8))]
def qrg_ (a0:List R8)(a1:Nat):AH:=⟨sB [(0,(some (.cells (layT (rows rw_iiiiiiLu a0)) 35)))],1,1⟩
def qns_ (a0:List R8)(a1:Nat)(r:Int):Value:=match r with
 | o0=>(i6 o0)
def qnt_ (a0:List R8)(a1:Nat)(r:Int):AH:=match r with
 | o0=>⟨sB [],1,1⟩
abbrev G_treeCheckq2 (a0:List R8)(a1:Nat)(r:Int):Prop:=Gv P (.func 35) (qrf_ a0 a1) (qrg_ a0 a1) (qns_ a0 a1 r) (qnt_ a0 a1 r)
abbrev qnu_ (a0:List R8)(a1:Nat)(r:Int)(ins outs:BL):CallA:=⟨1,ins,qns_ a0 a1 r,qnt_ a0 a1 r,outs⟩
def qgr_ (x0:List R8)(x1:Nat)(x2 st:Int):XSt:=match st with
 | x3=>(sT 36 [(16,(sN 0 0 x1 (Nat.add big 8))),(17,(i6 x2)),(18,(i6 x3))],[],⟨sB [(0,(some (.cells (layT (rows rw_iiiiiiLu x0)) 35)))],1,1⟩)
def qd3_ (x0:List R8)(x1:Nat)(x2:Int)(r:(Unit) ⊕ (Unit)):Ex×XSt:=match r with
 | .inl _=>(.ret,(sT 36 [(2,(i6 (2:Int)))],[],⟨sB [(0,(some (.cells (layT (rows rw_iiiiiiLu x0)) 35)))],1,1⟩))
 | .inr _=>(.exit 0,(sT 36 [],[],⟨sB [(0,(some (.cells (layT (rows rw_iiiiiiLu x0)) 35)))],1,1⟩))
abbrev Q_treeCheckq2_1 (rnd:Option Nat)(x0:List R8)(x1:Nat)(x2 st:Int)(c:Ex×XSt):Prop:=CG P rnd (fnN P 35) 1 (qo_ P 35 [false,false,true,false,true,true,true]) (qgr_ x0 x1 x2 st) c
def qdk_ (n:Nat)(x0:List R8)(x1:Nat)(x2 st:Int):Option ((Int) ⊕ ((Unit) ⊕ (Unit))):=match st with
 | x3=>
  if x3<x2 then
   if 0≤x3∧x3<((x1:Nat):Int) then
    if (x3).toNat<(x0).length then
     ((some ((x0).getD (x3).toNat (0,0,0,0,0,0,nl0,0)))).bind fun y4_=>
     (qhb_ n (y4_.1) (y4_.2.1) (y4_.2.2.1) (y4_.2.2.2.1) (y4_.2.2.2.2.1) (y4_.2.2.2.2.2.1) (y4_.2.2.2.2.2.2.1) (y4_.2.2.2.2.2.2.2)).bind fun y5_=>
     if y5_=true then
      if (y4_.2.1)=1 then
       if x3 > 0 then
        some (.inr (.inl ()))
       else
        some (.inl (w64 (x3+1)))
      else
       some (.inl (w64 (x3+1)))
     else
      some (.inr (.inl ()))
    else none
   else none
  else
   some (.inr (.inr ()))
def qik_ (n:Nat)(x0:List R8)(x1:Nat)(x2 st:Int):Option ((Unit) ⊕ (Unit)):=iterM (qdk_ n x0 x1 x2) n st
theorem qon_ (n:Nat){rnd:Option Nat}(x0:List R8)(x1:Nat)(x2 x3:Int)(o:(Int) ⊕ ((Unit) ⊕ (Unit)))(h:qdk_ n x0 x1 x2 x3=some o):CG P rnd (fnN P 35) 1 (qo_ P 35 [false,false,true,false,true,true,true]) (qgr_ x0 x1 x2 x3) (Sum.elim (fun s=>(.normal,qgr_ x0 x1 x2 s)) (fun r=>qd3_ x0 x1 x2 r) o):=by
 unfold qdk_ at h
 dsimp only at h
 by_cases hy1:x3<x2
 ·rw[if_pos hy1] at h
  obtain⟨hy2,h⟩:=gd h
  obtain⟨hy3,h⟩:=gd h
  obtain⟨y4_,hy4,h⟩:=oB h
  obtain⟨y5_,hy5,h⟩:=oB h
  have k0:=fun {A L l} (k:PL A L l)=>zz 1 (xdT hy1) <|
   zz 8 (xk13 0 U8 hy2) <|
   yy 9 (.ld (Value.agg #[(i6 (y4_.1)),(i6 (y4_.2.1)),(i6 (y4_.2.2.1)),(i6 (y4_.2.2.2.1)),(i6 (y4_.2.2.2.2.1)),(i6 (y4_.2.2.2.2.2.1)),(nlV (y4_.2.2.2.2.2.2.1)),(Value.int .u64 (y4_.2.2.2.2.2.2.2))])) <|
   ww (p:=rdT (layT (rows rw_iiiiiiLu x0)) 8 ((x3).toNat*8)=some [(i6 (y4_.1)),(i6 (y4_.2.1)),(i6 (y4_.2.2.1)),(i6 (y4_.2.2.2.1)),(i6 (y4_.2.2.2.2.1)),(i6 (y4_.2.2.2.2.2.1)),(nlV (y4_.2.2.2.2.2.2.1)),(Value.int .u64 (y4_.2.2.2.2.2.2.2))]) (qjw_ rwf_iiiiiiLu (0,0,0,0,0,0,nl0,0) (hr:=hy4) (i:=(x3).toNat) (j:=0) ((x3).toNat*8) rfl (hy3) (by decide) rfl) <|
   yy 15 (.call (C_treesoundq1 (y4_.1) (y4_.2.1) (y4_.2.2.1) (y4_.2.2.2.1) (y4_.2.2.2.2.1) (y4_.2.2.2.2.2.1) (y4_.2.2.2.2.2.2.1) (y4_.2.2.2.2.2.2.2) y5_ [] [])) <|
   ww (qtl_ n (y4_.1) (y4_.2.1) (y4_.2.2.1) (y4_.2.2.2.1) (y4_.2.2.2.2.1) (y4_.2.2.2.2.2.1) (y4_.2.2.2.2.2.2.1) (y4_.2.2.2.2.2.2.2) y5_ hy5) <|
   k
  by_cases hy6:y5_=true
  ·rw[if_pos hy6] at h
   have k6:=fun {A L l} (k:PL A L l)=>yy 16 (vf) <|
    ww (p:=(Value.bool (!y5_))=(Value.bool false)) (vBn hy6) <|
    k
   by_cases hy7:(y4_.2.1)=1
   ·rw[if_pos hy7] at h
    have k8:=fun {A L l} (k:PL A L l)=>zz 20 (xeT hy7) <|
     k
    by_cases hy8:x3 > 0
    ·rw[if_pos hy8] at h
     obtain rfl:=oI h
     exact runC2 hm ⟨[2],[(0,0,true)],1,1,[],false,[],[],[]⟩ (k0 <|
      k6 <|
      k8 <|
      zz 23 (xdT hy8) <|
      ww (qa_ rwf_iiiiiiLu x0 35) <|
      ee) (by kernel_rfl)
    ·rw[if_neg hy8] at h
     obtain rfl:=oI h
     exact runC2 hm ⟨[16,17,18],[(0,0,true)],1,1,[],false,[],[],[]⟩ (k0 <|
      k6 <|
      k8 <|
      zz 23 (xdF hy8) <|
      ww (qa_ rwf_iiiiiiLu x0 35) <|
      ee) (by kernel_rfl)
   ·rw[if_neg hy7] at h
    obtain rfl:=oI h
    exact runC2 hm ⟨[16,17,18],[(0,0,true)],1,1,[],false,[],[],[]⟩ (k0 <|
     k6 <|
     zz 20 (xeF hy7) <|
     ww (qa_ rwf_iiiiiiLu x0 35) <|
     ee) (by kernel_rfl)
  ·rw[if_neg hy6] at h
   obtain rfl:=oI h
   exact runC2 hm ⟨[2],[(0,0,true)],1,1,[],false,[],[],[]⟩ (k0 <|
    yy 16 (vt) <|
    ww (p:=(Value.bool (!y5_))=(Value.bool true)) (vBn (Bool.eq_false_iff.2 hy6)) <|
    ww (qa_ rwf_iiiiiiLu x0 35) <|
    ee) (by kernel_rfl)
 ·rw[if_neg hy1] at h
  obtain rfl:=oI h
  exact runC2 hm ⟨[],[(0,0,true)],1,1,[],false,[],[],[]⟩ (zz 1 (xdF hy1) <|
   ww (qa_ rwf_iiiiiiLu x0 35) <|
   ee) (by kernel_rfl)
theorem qlz_ (n:Nat){rnd:Option Nat}(x0:List R8)(x1:Nat)(x2 st:Int)(r:(Unit) ⊕ (Unit))(h:qik_ n x0 x1 x2 st=some r):CG P rnd (fnN P 35) 1 (qo_ P 35 [false,true,false,true,true,true]) (qgr_ x0 x1 x2 st) (qd3_ x0 x1 x2 r):=
 CG.iter (b:=qo_ P 35 [false,false,true,false,true,true,true]) (by kernel_rfl) (body:=qdk_ n x0 x1 x2) (S:=qgr_ x0 x1 x2) (X:=qd3_ x0 x1 x2)
  (fun s s' h=>qon_ n x0 x1 x2 s (.inl s') h)
  (fun s r h=>qon_ n x0 x1 x2 s (.inr r) h)
  (fun r=>by intro hx; rcases r with _ | _<;>cases hx) h
def qff_ (n:Nat)(a0:List R8)(a1:Nat):Option (Int):=
 if ((a1:Nat):Int) > 524288 then
  some 3
 else
  if ((a1:Nat):Int)=0 then
   some 2
  else
   (qgq_ n a0 a1).bind fun c3_=>
   if c3_=true then
    match qik_ n a0 a1 ((a1:Nat):Int) 0 with
    | none=>none
    | some (.inl _)=>
     some 2
    | some (.inr _)=>
     some 0
   else
    some 2
theorem qki_ (n:Nat)(a0:List R8)(a1:Nat)(r:Int)(h:qff_ n a0 a1=some r):Gv P (.func 35) (qrf_ a0 a1) (qrg_ a0 a1) (qns_ a0 a1 r) (qnt_ a0 a1 r):=by
 unfold qff_ at h
 by_cases hc1:((a1:Nat):Int) > 524288
 ·rw[if_pos hc1] at h
  obtain rfl:=oI h
  exact runF2 hm ⟨[2],[],1,1,[],false,[],[],[]⟩ (zz 6 (xdT hc1) <|
   ee) (by kernel_rfl)
 ·rw[if_neg hc1] at h
  have k0:=fun {A L l} (k:PL A L l)=>zz 6 (xdF hc1) <|
   k
  by_cases hc2:((a1:Nat):Int)=0
  ·rw[if_pos hc2] at h
   obtain rfl:=oI h
   exact runF2 hm ⟨[2],[],1,1,[],false,[],[],[]⟩ (k0 <|
    zz 12 (xeT hc2) <|
    ee) (by kernel_rfl)
  ·rw[if_neg hc2] at h
   obtain⟨c3_,hc3,h⟩:=oB h
   have k1:=fun {A L l} (k:PL A L l)=>zz 12 (xeF hc2) <|
    yy 15 (.call (qt1_ a0 a1 c3_ [(0,0,true)] [])) <|
    ww (qqu_ n a0 a1 c3_ hc3) <|
    ww (qa_ rwf_iiiiiiLu a0 35) <|
    k
   by_cases hc4:c3_=true
   ·rw[if_pos hc4] at h
    have k5:=fun {A L l} (k:PL A L l)=>yy 16 (vf) <|
     ww (p:=(Value.bool (!c3_))=(Value.bool false)) (vBn hc4) <|
     k
    rcases hc5:qik_ n a0 a1 ((a1:Nat):Int) 0 with _ | (⟨⟩ | ⟨⟩)
    ·rw[hc5] at h; cases h
    ·rw[hc5] at h
     dsimp only at h
     obtain rfl:=oI h
     exact runF2 hm ⟨[2],[],1,1,[],false,[],[],[]⟩ (k0 <|
      k1 <|
      k5 <|
      ww (qlz_ n (rnd:=none) a0 a1 ((a1:Nat):Int) 0 (.inl ()) hc5) <|
      ww (qa_ rwf_iiiiiiLu a0 35) <|
      ll 25 ⟨⟨[16,17,18],[(0,0,true)],1,1,[],false,[],[],[]⟩,(qd3_ a0 a1 ((a1:Nat):Int) (.inl ())).1,(qd3_ a0 a1 ((a1:Nat):Int) (.inl ())).2⟩ <|
      ee) (by kernel_rfl)
    ·rw[hc5] at h
     dsimp only at h
     obtain rfl:=oI h
     exact runF2 hm ⟨[2],[],1,1,[],false,[],[],[]⟩ (k0 <|
      k1 <|
      k5 <|
      ww (qlz_ n (rnd:=none) a0 a1 ((a1:Nat):Int) 0 (.inr ()) hc5) <|
      ww (qa_ rwf_iiiiiiLu a0 35) <|
      ll 25 ⟨⟨[16,17,18],[(0,0,true)],1,1,[],false,[],[],[]⟩,(qd3_ a0 a1 ((a1:Nat):Int) (.inr ())).1,(qd3_ a0 a1 ((a1:Nat):Int) (.inr ())).2⟩ <|
      ee) (by kernel_rfl)
   ·rw[if_neg hc4] at h
    obtain rfl:=oI h
    exact runF2 hm ⟨[2],[],1,1,[],false,[],[],[]⟩ (k0 <|
     k1 <|
     yy 16 (vt) <|
     ww (p:=(Value.bool (!c3_))=(Value.bool true)) (vBn (Bool.eq_false_iff.2 hc4)) <|
     ee) (by kernel_rfl)

def qps_ (a0:List R8)(a1:Nat)(a2:Int):List Value:=[(sN 0 0 a1 (Nat.add big 8)),(i6 a2)]
def qpt_ (a0:List R8)(a1:Nat)(a2:Int):AH:=⟨sB [(0,(some (.cells (layT (rows rw_iiiiiiLu a0)) 35)))],1,1⟩
def qmb_ (a0:List R8)(a1:Nat)(a2:Int)(r:Unit):Value:=match r with
 | _=>(Value.func (.func 98) #[] #[(pN 1 0),(pN 2 0)])
def qmc_ (a0:List R8)(a1:Nat)(a2:Int)(r:Unit):AH:=match r with
 | _=>⟨sB [(0,(some (.cells (layT (rows rw_iiiiiiLu a0)) 35))),(1,(some (.cells (layT [(sN 0 0 a1 (Nat.add big 8))]) 22))),(2,(some (.cells (layT [(i6 a2)]) 3)))],3,1⟩
abbrev G_treeplacesq1 (a0:List R8)(a1:Nat)(a2:Int)(r:Unit):Prop:=Gv P (.func 65) (qps_ a0 a1 a2) (qpt_ a0 a1 a2) (qmb_ a0 a1 a2 r) (qmc_ a0 a1 a2 r)
abbrev qwd_ (a0:List R8)(a1:Nat)(a2:Int)(r:Unit)(ins outs:BL):CallA:=⟨1,ins,qmb_ a0 a1 a2 r,qmc_ a0 a1 a2 r,outs⟩
def qjx_ (n:Nat)(a0:List R8)(a1:Nat)(a2:Int):Option (Unit):=
 some ()
theorem qrn_ (n:Nat)(a0:List R8)(a1:Nat)(a2:Int)(r:Unit)(h:qjx_ n a0 a1 a2=some r):Gv P (.func 65) (qps_ a0 a1 a2) (qpt_ a0 a1 a2) (qmb_ a0 a1 a2 r) (qmc_ a0 a1 a2 r):=by
 unfold qjx_ at h
 obtain rfl:=oI h
 exact runF2 hm ⟨[4],[(0,0,true),(1,1,false),(2,2,false)],3,1,[],false,[],[],[]⟩ (ww (qa_ rwf_iiiiiiLu a0 35) <|
  ee) (by kernel_rfl)

def qpu_ (a0 a1 a2 a3 a4 a5:Int)(a6:NL)(a7:Int):List Value:=[(Value.agg #[(i6 a0),(i6 a1),(i6 a2),(i6 a3),(i6 a4),(i6 a5),(nlV a6),(Value.int .u64 a7)])]
def qpv_ (a0 a1 a2 a3 a4 a5:Int)(a6:NL)(a7:Int):AH:=⟨sB [],0,0⟩
def qmd_ (a0 a1 a2 a3 a4 a5:Int)(a6:NL)(a7:Int)(r:Bool):Value:=match r with
 | o0=>(bO o0)
def qme_ (a0 a1 a2 a3 a4 a5:Int)(a6:NL)(a7:Int)(r:Bool):AH:=match r with
 | o0=>⟨sB [],0,0⟩
abbrev G_partsInnerq1 (a0 a1 a2 a3 a4 a5:Int)(a6:NL)(a7:Int)(r:Bool):Prop:=Gv P (.func 20) (qpu_ a0 a1 a2 a3 a4 a5 a6 a7) (qpv_ a0 a1 a2 a3 a4 a5 a6 a7) (qmd_ a0 a1 a2 a3 a4 a5 a6 a7 r) (qme_ a0 a1 a2 a3 a4 a5 a6 a7 r)
abbrev qmf_ (a0 a1 a2 a3 a4 a5:Int)(a6:NL)(a7:Int)(r:Bool)(ins outs:BL):CallA:=⟨0,ins,qmd_ a0 a1 a2 a3 a4 a5 a6 a7 r,qme_ a0 a1 a2 a3 a4 a5 a6 a7 r,outs⟩
def qd0_ (n:Nat)(a0 a1 a2 a3 a4 a5:Int)(a6:NL)(a7:Int):Option (Bool):=
 if a1=1 then
  some true
 else
  if a1=2 then
   some true
  else
   some false
theorem qjb_ (n:Nat)(a0 a1 a2 a3 a4 a5:Int)(a6:NL)(a7:Int)(r:Bool)(h:qd0_ n a0 a1 a2 a3 a4 a5 a6 a7=some r):Gv P (.func 20) (qpu_ a0 a1 a2 a3 a4 a5 a6 a7) (qpv_ a0 a1 a2 a3 a4 a5 a6 a7) (qmd_ a0 a1 a2 a3 a4 a5 a6 a7 r) (qme_ a0 a1 a2 a3 a4 a5 a6 a7 r):=by
 unfold qd0_ at h
 by_cases hc1:a1=1
 ·rw[if_pos hc1] at h
  obtain rfl:=oI h
  exact runF2 hm ⟨[2],[],0,0,[],false,[],[],[]⟩ (zz 6 (xeT hc1) <|
   ee) (by kernel_rfl)
 ·rw[if_neg hc1] at h
  have k0:=fun {A L l} (k:PL A L l)=>zz 6 (xeF hc1) <|
   k
  by_cases hc2:a1=2
  ·rw[if_pos hc2] at h
   obtain rfl:=oI h
   exact runF2 hm ⟨[2],[],0,0,[],false,[],[],[]⟩ (k0 <|
    zz 10 (xeT hc2) <|
    ee) (by kernel_rfl)
  ·rw[if_neg hc2] at h
   obtain rfl:=oI h
   exact runF2 hm ⟨[2],[],0,0,[],false,[],[],[]⟩ (k0 <|
    zz 10 (xeF hc2) <|
    ee) (by kernel_rfl)

def qjp_ (a0:List R8)(a1 a2:Nat)(a3 a4:Int):List Value:=[(i6 a4)]
def qjq_ (a0:List R8)(a1 a2:Nat)(a3 a4:Int):AH:=⟨sB [(0,(some (rblk P 36 [false,true,false,true,true,true] .ready none [(1,(pN 2 0)),(3,(pN 4 0)),(9,(Value.func (.func 98) #[] #[(pN 5 0),(pN 6 0)]))] 1))),(1,(some (.marks true))),(2,(some (.cells (layT [(sN 3 0 a1 (Nat.add big 8))]) 22))),(3,(some (.cells (layT (rows rw_iiiiiiLu a0)) 35))),(4,(some (.cells (layT [(Value.slice none 0 0)]) 29))),(5,(some (.cells (layT [(sN 3 0 a2 (Nat.add big 8))]) 22))),(6,(some (.cells (layT [(i6 a3)]) 3)))],7,7⟩
def qgk_ (a0:List R8)(a1 a2:Nat)(a3 a4:Int)(r:List Int):Value:=match r with
 | o0=>(bO true)
def qgl_ (a0:List R8)(a1 a2:Nat)(a3 a4:Int)(r:List Int):AH:=match r with
 | o0=>⟨sB [(0,(some (rblk P 36 [false,true,false,true,true,true] .ready none [(1,(pN 2 0)),(3,(pN 4 0)),(9,(Value.func (.func 98) #[] #[(pN 5 0),(pN 6 0)]))] 1))),(1,(some (.marks true))),(2,(some (.cells (layT [(sN 3 0 a1 (Nat.add big 8))]) 22))),(3,(some (.cells (layT (rows rw_iiiiiiLu a0)) 35))),(4,(some (.cells (layT [(slN o0 7)]) 29))),(5,(some (.cells (layT [(sN 3 0 a2 (Nat.add big 8))]) 22))),(6,(some (.cells (layT [(i6 a3)]) 3))),(7,(nblk o0 3))],8,0⟩
abbrev G_treeLeaves_111010y1 (a0:List R8)(a1 a2:Nat)(a3 a4:Int)(r:List Int):Prop:=Gv P (.yield 0) (qjp_ a0 a1 a2 a3 a4) (qjq_ a0 a1 a2 a3 a4) (qgk_ a0 a1 a2 a3 a4 r) (qgl_ a0 a1 a2 a3 a4 r)
abbrev qjr_ (a0:List R8)(a1 a2:Nat)(a3 a4:Int)(r:List Int)(ins outs:BL):CallA:=⟨7,ins,qgk_ a0 a1 a2 a3 a4 r,qgl_ a0 a1 a2 a3 a4 r,outs⟩
def qda_ (n:Nat)(a0:List R8)(a1 a2:Nat)(a3 a4:Int):Option (List Int):=
 if 0≤a4∧a4<((a1:Nat):Int) then
  if (a4).toNat<(a0).length then
   ((some ((a0).getD (a4).toNat (0,0,0,0,0,0,nl0,0)))).bind fun c3_=>
   (qd0_ n (c3_.1) (c3_.2.1) (c3_.2.2.1) (c3_.2.2.2.1) (c3_.2.2.2.2.1) (c3_.2.2.2.2.2.1) (c3_.2.2.2.2.2.2.1) (c3_.2.2.2.2.2.2.2)).bind fun c4_=>
   if c4_=true then
    some ([]:List Int)
   else
    some [a4]
  else none
 else none
theorem qhx_ (n:Nat)(a0:List R8)(a1 a2:Nat)(a3 a4:Int)(r:List Int)(h:qda_ n a0 a1 a2 a3 a4=some r):Gv P (.yield 0) (qjp_ a0 a1 a2 a3 a4) (qjq_ a0 a1 a2 a3 a4) (qgk_ a0 a1 a2 a3 a4 r) (qgl_ a0 a1 a2 a3 a4 r):=by
 unfold qda_ at h
 obtain⟨hc1,h⟩:=gd h
 obtain⟨hc2,h⟩:=gd h
 obtain⟨c3_,hc3,h⟩:=oB h
 obtain⟨c4_,hc4,h⟩:=oB h
 have k0:=fun {A L l} (k:PL A L l)=>zz 4 (xk13 3 U8 hc1) <|
  yy 5 (.ld (Value.agg #[(i6 (c3_.1)),(i6 (c3_.2.1)),(i6 (c3_.2.2.1)),(i6 (c3_.2.2.2.1)),(i6 (c3_.2.2.2.2.1)),(i6 (c3_.2.2.2.2.2.1)),(nlV (c3_.2.2.2.2.2.2.1)),(Value.int .u64 (c3_.2.2.2.2.2.2.2))])) <|
  ww (p:=rdT (layT (rows rw_iiiiiiLu a0)) 8 ((a4).toNat*8)=some [(i6 (c3_.1)),(i6 (c3_.2.1)),(i6 (c3_.2.2.1)),(i6 (c3_.2.2.2.1)),(i6 (c3_.2.2.2.2.1)),(i6 (c3_.2.2.2.2.2.1)),(nlV (c3_.2.2.2.2.2.2.1)),(Value.int .u64 (c3_.2.2.2.2.2.2.2))]) (qjw_ rwf_iiiiiiLu (0,0,0,0,0,0,nl0,0) (hr:=hc3) (i:=(a4).toNat) (j:=0) ((a4).toNat*8) rfl (hc2) (by decide) rfl) <|
  yy 6 (.call (qmf_ (c3_.1) (c3_.2.1) (c3_.2.2.1) (c3_.2.2.2.1) (c3_.2.2.2.2.1) (c3_.2.2.2.2.2.1) (c3_.2.2.2.2.2.2.1) (c3_.2.2.2.2.2.2.2) c4_ [] [])) <|
  ww (qjb_ n (c3_.1) (c3_.2.1) (c3_.2.2.1) (c3_.2.2.2.1) (c3_.2.2.2.2.1) (c3_.2.2.2.2.2.1) (c3_.2.2.2.2.2.2.1) (c3_.2.2.2.2.2.2.2) c4_ hc4) <|
  k
 by_cases hc5:c4_=true
 ·rw[if_pos hc5] at h
  obtain rfl:=oI h
  exact runY2 hm ⟨[],[(0,0,false),(1,1,false),(2,2,false),(3,3,true),(4,4,false),(5,5,false),(6,6,false)],8,0,[],false,[],[],[]⟩ (ee) (k0 <|
   yy 7 (vf) <|
   ww (p:=(Value.bool (!c4_))=(Value.bool false)) (vBn hc5) <|
   ww (qa_ rwf_iiiiiiLu a0 35) <|
   ee) (by kernel_rfl)
 ·rw[if_neg hc5] at h
  obtain rfl:=oI h
  exact runY2 hm ⟨[],[(0,0,false),(1,1,false),(2,2,false),(3,3,true),(4,4,false),(5,5,false),(6,6,false),(7,8,false)],8,0,[],false,[],[],[]⟩ (ee) (k0 <|
   yy 7 (vt) <|
   ww (p:=(Value.bool (!c4_))=(Value.bool true)) (vBn (Bool.eq_false_iff.2 hc5)) <|
   ww (qa_ rwf_iiiiiiLu a0 35) <|
   ee) (by kernel_rfl)

def qjs_ (a0:List R8)(a1:Nat)(a2:List Int)(a3:Nat)(a4 a5:Int):List Value:=[(i6 a5)]
def qjt_ (a0:List R8)(a1:Nat)(a2:List Int)(a3:Nat)(a4 a5:Int):AH:=⟨sB [(0,(some (rblk P 36 [false,true,false,true,true,true] .ready none [(1,(pN 2 0)),(3,(pN 4 0)),(9,(Value.func (.func 98) #[] #[(pN 6 0),(pN 7 0)]))] 1))),(1,(some (.marks true))),(2,(some (.cells (layT [(sN 3 0 a1 (Nat.add big 8))]) 22))),(3,(some (.cells (layT (rows rw_iiiiiiLu a0)) 35))),(4,(some (.cells (layT [(sN 5 0 (a2).length (Nat.add big 1))]) 29))),(5,(some (.cells (layT (iv a2)) 3))),(6,(some (.cells (layT [(sN 3 0 a3 (Nat.add big 8))]) 22))),(7,(some (.cells (layT [(i6 a4)]) 3)))],8,8⟩
def qgm_ (a0:List R8)(a1:Nat)(a2:List Int)(a3:Nat)(a4 a5:Int)(r:List Int):Value:=match r with
 | o0=>(bO true)
def qgn_ (a0:List R8)(a1:Nat)(a2:List Int)(a3:Nat)(a4 a5:Int)(r:List Int):AH:=match r with
 | o0=>⟨sB [(0,(some (rblk P 36 [false,true,false,true,true,true] .ready none [(1,(pN 2 0)),(3,(pN 4 0)),(9,(Value.func (.func 98) #[] #[(pN 6 0),(pN 7 0)]))] 1))),(1,(some (.marks true))),(2,(some (.cells (layT [(sN 3 0 a1 (Nat.add big 8))]) 22))),(3,(some (.cells (layT (rows rw_iiiiiiLu a0)) 35))),(4,(some (.cells (layT [(sN 8 0 (o0).length (Nat.add big 1))]) 29))),(6,(some (.cells (layT [(sN 3 0 a3 (Nat.add big 8))]) 22))),(7,(some (.cells (layT [(i6 a4)]) 3))),(8,(some (.cells (layT (iv o0)) 3)))],9,0⟩
abbrev G_treeLeaves_111010y2 (a0:List R8)(a1:Nat)(a2:List Int)(a3:Nat)(a4 a5:Int)(r:List Int):Prop:=Gv P (.yield 0) (qjs_ a0 a1 a2 a3 a4 a5) (qjt_ a0 a1 a2 a3 a4 a5) (qgm_ a0 a1 a2 a3 a4 a5 r) (qgn_ a0 a1 a2 a3 a4 a5 r)
abbrev qod_ (a0:List R8)(a1:Nat)(a2:List Int)(a3:Nat)(a4 a5:Int)(r:List Int)(ins outs:BL):CallA:=⟨8,ins,qgm_ a0 a1 a2 a3 a4 a5 r,qgn_ a0 a1 a2 a3 a4 a5 r,outs⟩
def qdb_ (n:Nat)(a0:List R8)(a1:Nat)(a2:List Int)(a3:Nat)(a4 a5:Int):Option (List Int):=
 if 0≤a5∧a5<((a1:Nat):Int) then
  if (a5).toNat<(a0).length then
   ((some ((a0).getD (a5).toNat (0,0,0,0,0,0,nl0,0)))).bind fun c3_=>
   (qd0_ n (c3_.1) (c3_.2.1) (c3_.2.2.1) (c3_.2.2.2.1) (c3_.2.2.2.2.1) (c3_.2.2.2.2.2.1) (c3_.2.2.2.2.2.2.1) (c3_.2.2.2.2.2.2.2)).bind fun c4_=>
   if c4_=true then
    some a2
   else
    if ((a2).length+1)*8≤140737488355328 then
     some (a2 ++ [a5])
    else none
  else none
 else none
theorem qmg_ (n:Nat)(a0:List R8)(a1:Nat)(a2:List Int)(a3:Nat)(a4 a5:Int)(r:List Int)(h:qdb_ n a0 a1 a2 a3 a4 a5=some r):Gv P (.yield 0) (qjs_ a0 a1 a2 a3 a4 a5) (qjt_ a0 a1 a2 a3 a4 a5) (qgm_ a0 a1 a2 a3 a4 a5 r) (qgn_ a0 a1 a2 a3 a4 a5 r):=by
 unfold qdb_ at h
 obtain⟨hc1,h⟩:=gd h
 obtain⟨hc2,h⟩:=gd h
 obtain⟨c3_,hc3,h⟩:=oB h
 obtain⟨c4_,hc4,h⟩:=oB h
 have k0:=fun {A L l} (k:PL A L l)=>zz 4 (xk13 3 U8 hc1) <|
  yy 5 (.ld (Value.agg #[(i6 (c3_.1)),(i6 (c3_.2.1)),(i6 (c3_.2.2.1)),(i6 (c3_.2.2.2.1)),(i6 (c3_.2.2.2.2.1)),(i6 (c3_.2.2.2.2.2.1)),(nlV (c3_.2.2.2.2.2.2.1)),(Value.int .u64 (c3_.2.2.2.2.2.2.2))])) <|
  ww (p:=rdT (layT (rows rw_iiiiiiLu a0)) 8 ((a5).toNat*8)=some [(i6 (c3_.1)),(i6 (c3_.2.1)),(i6 (c3_.2.2.1)),(i6 (c3_.2.2.2.1)),(i6 (c3_.2.2.2.2.1)),(i6 (c3_.2.2.2.2.2.1)),(nlV (c3_.2.2.2.2.2.2.1)),(Value.int .u64 (c3_.2.2.2.2.2.2.2))]) (qjw_ rwf_iiiiiiLu (0,0,0,0,0,0,nl0,0) (hr:=hc3) (i:=(a5).toNat) (j:=0) ((a5).toNat*8) rfl (hc2) (by decide) rfl) <|
  yy 6 (.call (qmf_ (c3_.1) (c3_.2.1) (c3_.2.2.1) (c3_.2.2.2.1) (c3_.2.2.2.2.1) (c3_.2.2.2.2.2.1) (c3_.2.2.2.2.2.2.1) (c3_.2.2.2.2.2.2.2) c4_ [] [])) <|
  ww (qjb_ n (c3_.1) (c3_.2.1) (c3_.2.2.1) (c3_.2.2.2.1) (c3_.2.2.2.2.1) (c3_.2.2.2.2.2.1) (c3_.2.2.2.2.2.2.1) (c3_.2.2.2.2.2.2.2) c4_ hc4) <|
  k
 by_cases hc5:c4_=true
 ·rw[if_pos hc5] at h
  obtain rfl:=oI h
  exact runY2 hm ⟨[],[(0,0,false),(1,1,false),(2,2,false),(3,3,true),(4,4,false),(6,6,false),(7,7,false),(8,5,true)],9,0,[],false,[],[],[]⟩ (ee) (k0 <|
   yy 7 (vf) <|
   ww (p:=(Value.bool (!c4_))=(Value.bool false)) (vBn hc5) <|
   ww (qa_ rwf_iiiiiiLu a0 35) <|
   ww (qc_ a2 3) <|
   ee) (by kernel_rfl)
 ·rw[if_neg hc5] at h
  obtain⟨hc6,h⟩:=gd h
  obtain rfl:=oI h
  exact runY2 hm ⟨[],[(0,0,false),(1,1,false),(2,2,false),(3,3,true),(4,4,false),(6,6,false),(7,7,false),(8,9,true)],9,0,[],false,[],[],[]⟩ (ee) (k0 <|
   yy 7 (vt) <|
   ww (p:=(Value.bool (!c4_))=(Value.bool true)) (vBn (Bool.eq_false_iff.2 hc5)) <|
   yy 12 (.app ⟨none,iv a2,(iv (a2 ++ [a5])),((a2 ++ [a5])).length,false⟩) <|
   ww (p:=0<1) ((by decide)) <|
   ww (p:=rdT (layT (iv a2)) (Nat.mul (a2).length 1) 0=some (iv a2)) (iv_rd _) <|
   ww (p:=fits (Nat.add (a2).length 1) 8=true) (qk3_ hc6 (by have:=hc6; show (_:Nat)+_≤_; omega)) <|
   ww (p:=qbc_ [(i6 a5)]=true) (rfl) <|
   ww (p:=qbc_ (iv a2)=true) (qv5_ _) <|
   ww (p:=iv a2 ++ [(i6 a5)]=(iv (a2 ++ [a5]))) (by simp[iv]) <|
   ww (p:=Nat.add (a2).length 1=((a2 ++ [a5])).length) (by simp) <|
   ww (qa_ rwf_iiiiiiLu a0 35) <|
   ww (qc_ (a2 ++ [a5]) 3) <|
   ee) (by kernel_rfl)

def qhc_ (a0:List R8)(a1:Nat)(a2:Int)(a3:Nat)(a4:List Int)(a5:Nat)(a6:Int):List Value:=[(sN 0 0 a1 (Nat.add big 8)),(i6 a2),(Value.func (.yield 1) #[] #[])]
def qhd_ (a0:List R8)(a1:Nat)(a2:Int)(a3:Nat)(a4:List Int)(a5:Nat)(a6:Int):AH:=⟨sB [(0,(some (.cells (layT (rows rw_iiiiiiLu a0)) 35))),(1,(some (rblk P 36 [false,true,false,true,true,true] .ready none [(1,(pN 3 0)),(3,(pN 4 0)),(9,(Value.func (.func 98) #[] #[(pN 6 0),(pN 7 0)]))] 2))),(2,(some (.marks true))),(3,(some (.cells (layT [(sN 0 0 a3 (Nat.add big 8))]) 22))),(4,(some (.cells (layT [(sN 5 0 (a4).length (Nat.add big 1))]) 29))),(5,(some (.cells (layT (iv a4)) 3))),(6,(some (.cells (layT [(sN 0 0 a5 (Nat.add big 8))]) 22))),(7,(some (.cells (layT [(i6 a6)]) 3)))],8,8⟩
def qfg_ (a0:List R8)(a1:Nat)(a2:Int)(a3:Nat)(a4:List Int)(a5:Nat)(a6:Int)(r:List Int):Value:=match r with
 | o0=>(bO true)
def qfh_ (a0:List R8)(a1:Nat)(a2:Int)(a3:Nat)(a4:List Int)(a5:Nat)(a6:Int)(r:List Int):AH:=match r with
 | o0=>⟨sB [(0,(some (.cells (layT (rows rw_iiiiiiLu a0)) 35))),(1,(some (rblk P 36 [false,true,false,true,true,true] .ready none [(1,(pN 3 0)),(3,(pN 4 0)),(9,(Value.func (.func 98) #[] #[(pN 6 0),(pN 7 0)]))] 2))),(2,(some (.marks true))),(3,(some (.cells (layT [(sN 0 0 a3 (Nat.add big 8))]) 22))),(4,(some (.cells (layT [(sN 8 0 (o0).length (Nat.add big 1))]) 29))),(6,(some (.cells (layT [(sN 0 0 a5 (Nat.add big 8))]) 22))),(7,(some (.cells (layT [(i6 a6)]) 3))),(8,(some (.cells (layT (iv o0)) 3)))],9,0⟩
abbrev G_treevisitq2 (a0:List R8)(a1:Nat)(a2:Int)(a3:Nat)(a4:List Int)(a5:Nat)(a6:Int)(r:List Int):Prop:=Gv P (.func 99) (qhc_ a0 a1 a2 a3 a4 a5 a6) (qhd_ a0 a1 a2 a3 a4 a5 a6) (qfg_ a0 a1 a2 a3 a4 a5 a6 r) (qfh_ a0 a1 a2 a3 a4 a5 a6 r)
abbrev qrh_ (a0:List R8)(a1:Nat)(a2:Int)(a3:Nat)(a4:List Int)(a5:Nat)(a6:Int)(r:List Int)(ins outs:BL):CallA:=⟨8,ins,qfg_ a0 a1 a2 a3 a4 a5 a6 r,qfh_ a0 a1 a2 a3 a4 a5 a6 r,outs⟩
def qe5_ (x0:List R8)(x1 x3:Nat)(x4:Int)(x5:Nat)(x6:NL)(x7:Int)(st:List Int×Int):XSt:=match st with
 | (x2,x8)=>(sT 29 [(0,(sN 0 0 x5 (Nat.add big 8))),(2,(Value.func (.yield 1) #[] #[])),(17,(nlV x6)),(18,(i6 x7)),(19,(i6 x8))],[],⟨sB [(0,(some (.cells (layT (rows rw_iiiiiiLu x0)) 35))),(1,(some (rblk P 36 [false,true,false,true,true,true] .ready none [(1,(pN 3 0)),(3,(pN 4 0)),(9,(Value.func (.func 98) #[] #[(pN 6 0),(pN 7 0)]))] 2))),(2,(some (.marks true))),(3,(some (.cells (layT [(sN 0 0 x1 (Nat.add big 8))]) 22))),(4,(some (.cells (layT [(sN 8 0 (x2).length (Nat.add big 1))]) 29))),(6,(some (.cells (layT [(sN 0 0 x3 (Nat.add big 8))]) 22))),(7,(some (.cells (layT [(i6 x4)]) 3))),(8,(some (.cells (layT (iv x2)) 3)))],9,0⟩)
def qe6_ (x0:List R8)(x1 x3:Nat)(x4:Int)(x5:Nat)(x6:NL)(x7:Int)(r:List Int):Ex×XSt:=match r with
 | z0=>(.exit 0,(sT 29 [],[],⟨sB [(0,(some (.cells (layT (rows rw_iiiiiiLu x0)) 35))),(1,(some (rblk P 36 [false,true,false,true,true,true] .ready none [(1,(pN 3 0)),(3,(pN 4 0)),(9,(Value.func (.func 98) #[] #[(pN 6 0),(pN 7 0)]))] 2))),(2,(some (.marks true))),(3,(some (.cells (layT [(sN 0 0 x1 (Nat.add big 8))]) 22))),(4,(some (.cells (layT [(sN 8 0 (z0).length (Nat.add big 1))]) 29))),(6,(some (.cells (layT [(sN 0 0 x3 (Nat.add big 8))]) 22))),(7,(some (.cells (layT [(i6 x4)]) 3))),(8,(some (.cells (layT (iv z0)) 3)))],9,0⟩))
abbrev Q_treevisitq2_1 (rnd:Option Nat)(x0:List R8)(x1 x3:Nat)(x4:Int)(x5:Nat)(x6:NL)(x7:Int)(st:List Int×Int)(c:Ex×XSt):Prop:=CG P rnd (fnN P 99) 8 (qo_ P 99 [false,false,true,false,true,true]) (qe5_ x0 x1 x3 x4 x5 x6 x7 st) c
abbrev qt2_ (rd:Option Nat)(x0:List R8)(x1 x3:Nat)(x4:Int)(x5:Nat)(x6:NL)(x7:Int)(st:List Int×Int)(r:List Int):Prop:=CG P rd (fnN P 99) 8 (qo_ P 99 [false,true,false,true,true]) (qe5_ x0 x1 x3 x4 x5 x6 x7 st) (qe6_ x0 x1 x3 x4 x5 x6 x7 r)
def qcd_ (rec_treevisitq2:(List R8)→(Nat)→(Int)→(Nat)→(List Int)→(Nat)→(Int)→Option (List Int))(n:Nat)(x0:List R8)(x1 x3:Nat)(x4:Int)(x5:Nat)(x6:NL)(x7:Int)(st:List Int×Int):Option ((List Int×Int) ⊕ (List Int)):=match st with
 | (x2,x8)=>
  if x8<x7 then
   if 0≤x8∧x8<(((x6).l.length:Nat):Int) then
    if (x8).toNat<((x6).l).length then
     ((some (((x6).l).getD (x8).toNat 0))).bind fun y4_=>
     (rec_treevisitq2 x0 x5 y4_ x1 x2 x3 x4).bind fun y5_=>
     some (.inl (y5_,(w64 (x8+1))))
    else none
   else none
  else
   some (.inr x2)
def qil_ (rec_treevisitq2:(List R8)→(Nat)→(Int)→(Nat)→(List Int)→(Nat)→(Int)→Option (List Int))(n:Nat)(x0:List R8)(x1 x3:Nat)(x4:Int)(x5:Nat)(x6:NL)(x7:Int)(st:List Int×Int):Option (List Int):=iterM (qcd_ rec_treevisitq2 n x0 x1 x3 x4 x5 x6 x7) n st
theorem qoo_ (rec_treevisitq2:(List R8)→(Nat)→(Int)→(Nat)→(List Int)→(Nat)→(Int)→Option (List Int))(hrec_treevisitq2:∀ (a0:List R8) (a1:Nat) (a2:Int) (a3:Nat) (a4:List Int) (a5:Nat) (a6:Int) (r:List Int),rec_treevisitq2 a0 a1 a2 a3 a4 a5 a6=some r→Gv P (.func 99) (qhc_ a0 a1 a2 a3 a4 a5 a6) (qhd_ a0 a1 a2 a3 a4 a5 a6) (qfg_ a0 a1 a2 a3 a4 a5 a6 r) (qfh_ a0 a1 a2 a3 a4 a5 a6 r))(n:Nat){rnd:Option Nat}(x0:List R8)(x1 x3:Nat)(x4:Int)(x5:Nat)(x6:NL)(x7:Int)(st:List Int×Int)(o:(List Int×Int) ⊕ (List Int))(h:qcd_ rec_treevisitq2 n x0 x1 x3 x4 x5 x6 x7 st=some o):CG P rnd (fnN P 99) 8 (qo_ P 99 [false,false,true,false,true,true]) (qe5_ x0 x1 x3 x4 x5 x6 x7 st) (Sum.elim (fun s=>(.normal,qe5_ x0 x1 x3 x4 x5 x6 x7 s)) (fun r=>qe6_ x0 x1 x3 x4 x5 x6 x7 r) o):=by
 obtain⟨x2,x8⟩:=st
 unfold qcd_ at h
 dsimp only at h
 by_cases hy1:x8<x7
 ·rw[if_pos hy1] at h
  obtain⟨hy2,h⟩:=gd h
  obtain⟨hy3,h⟩:=gd h
  obtain⟨y4_,hy4,h⟩:=oB h
  obtain⟨y5_,hy5,h⟩:=oB h
  obtain rfl:=oI h
  exact runC2 hm ⟨[0,2,17,18,19],[(0,0,true),(1,1,false),(2,2,false),(3,3,false),(4,4,false),(6,6,false),(7,7,false),(8,9,true)],9,0,[],false,[],[],[]⟩ (zz 1 (xdT hy1) <|
   zz 7 (xk9 (Nat.add (x6).num 64) (x6).off (x6).cap hy2) <|
   zz 8 (nk10 hy4 hy3) <|
   yy 14 (.call (qrh_ x0 x5 y4_ x1 x2 x3 x4 y5_ [(0,0,true),(1,1,false),(2,2,false),(3,3,false),(4,4,false),(5,8,true),(6,6,false),(7,7,false)] [(0,0,true),(1,1,false),(2,2,false),(3,3,false),(4,4,false),(6,6,false),(7,7,false),(9,8,true)])) <|
   ww (hrec_treevisitq2 x0 x5 y4_ x1 x2 x3 x4 y5_ hy5) <|
   ww (qa_ rwf_iiiiiiLu x0 35) <|
   ww (qc_ x2 3) <|
   ww (qa_ rwf_iiiiiiLu x0 35) <|
   ww (qc_ y5_ 3) <|
   ww (qa_ rwf_iiiiiiLu x0 35) <|
   ww (qc_ y5_ 3) <|
   ee) (by kernel_rfl)
 ·rw[if_neg hy1] at h
  obtain rfl:=oI h
  exact runC2 hm ⟨[],[(0,0,true),(1,1,false),(2,2,false),(3,3,false),(4,4,false),(6,6,false),(7,7,false),(8,8,true)],9,0,[],false,[],[],[]⟩ (zz 1 (xdF hy1) <|
   ww (qa_ rwf_iiiiiiLu x0 35) <|
   ww (qc_ x2 3) <|
   ee) (by kernel_rfl)
theorem qqv_ (rec_treevisitq2:(List R8)→(Nat)→(Int)→(Nat)→(List Int)→(Nat)→(Int)→Option (List Int))(hrec_treevisitq2:∀ (a0:List R8) (a1:Nat) (a2:Int) (a3:Nat) (a4:List Int) (a5:Nat) (a6:Int) (r:List Int),rec_treevisitq2 a0 a1 a2 a3 a4 a5 a6=some r→Gv P (.func 99) (qhc_ a0 a1 a2 a3 a4 a5 a6) (qhd_ a0 a1 a2 a3 a4 a5 a6) (qfg_ a0 a1 a2 a3 a4 a5 a6 r) (qfh_ a0 a1 a2 a3 a4 a5 a6 r))(n:Nat){rnd:Option Nat}(x0:List R8)(x1 x3:Nat)(x4:Int)(x5:Nat)(x6:NL)(x7:Int)(st:List Int×Int)(r:List Int)(h:qil_ rec_treevisitq2 n x0 x1 x3 x4 x5 x6 x7 st=some r):CG P rnd (fnN P 99) 8 (qo_ P 99 [false,true,false,true,true]) (qe5_ x0 x1 x3 x4 x5 x6 x7 st) (qe6_ x0 x1 x3 x4 x5 x6 x7 r):=
 CG.iter (b:=qo_ P 99 [false,false,true,false,true,true]) (by kernel_rfl) (body:=qcd_ rec_treevisitq2 n x0 x1 x3 x4 x5 x6 x7) (S:=qe5_ x0 x1 x3 x4 x5 x6 x7) (X:=qe6_ x0 x1 x3 x4 x5 x6 x7)
  (fun s s' h=>qoo_ rec_treevisitq2 hrec_treevisitq2 n x0 x1 x3 x4 x5 x6 x7 s (.inl s') h)
  (fun s r h=>qoo_ rec_treevisitq2 hrec_treevisitq2 n x0 x1 x3 x4 x5 x6 x7 s (.inr r) h)
  (fun r=>by intro hx; cases hx) h
def qfi_ (rec_treevisitq2:(List R8)→(Nat)→(Int)→(Nat)→(List Int)→(Nat)→(Int)→Option (List Int))(n:Nat)(a0:List R8)(a1:Nat)(a2:Int)(a3:Nat)(a4:List Int)(a5:Nat)(a6:Int):Option (List Int):=
 (qdb_ n a0 a3 a4 a5 a6 a2).bind fun c1_=>
 if 0≤a2∧a2<((a1:Nat):Int) then
  if (a2).toNat<(a0).length then
   ((some ((a0).getD (a2).toNat (0,0,0,0,0,0,nl0,0)))).bind fun c4_=>
   (qil_ rec_treevisitq2 n a0 a3 a5 a6 a1 (c4_.2.2.2.2.2.2.1) ((((c4_.2.2.2.2.2.2.1)).l.length:Nat):Int) (c1_,0)).bind fun c5_=>
   some c5_
  else none
 else none
theorem qtm_ (rec_treevisitq2:(List R8)→(Nat)→(Int)→(Nat)→(List Int)→(Nat)→(Int)→Option (List Int))(hrec_treevisitq2:∀ (a0:List R8) (a1:Nat) (a2:Int) (a3:Nat) (a4:List Int) (a5:Nat) (a6:Int) (r:List Int),rec_treevisitq2 a0 a1 a2 a3 a4 a5 a6=some r→Gv P (.func 99) (qhc_ a0 a1 a2 a3 a4 a5 a6) (qhd_ a0 a1 a2 a3 a4 a5 a6) (qfg_ a0 a1 a2 a3 a4 a5 a6 r) (qfh_ a0 a1 a2 a3 a4 a5 a6 r))(n:Nat)(a0:List R8)(a1:Nat)(a2:Int)(a3:Nat)(a4:List Int)(a5:Nat)(a6:Int)(r:List Int)(h:qfi_ rec_treevisitq2 n a0 a1 a2 a3 a4 a5 a6=some r):Gv P (.func 99) (qhc_ a0 a1 a2 a3 a4 a5 a6) (qhd_ a0 a1 a2 a3 a4 a5 a6) (qfg_ a0 a1 a2 a3 a4 a5 a6 r) (qfh_ a0 a1 a2 a3 a4 a5 a6 r):=by
 unfold qfi_ at h
 obtain⟨c1_,hc1,h⟩:=oB h
 obtain⟨hc2,h⟩:=gd h
 obtain⟨hc3,h⟩:=gd h
 obtain⟨c4_,hc4,h⟩:=oB h
 obtain⟨c5_,hc5,h⟩:=oB h
 obtain rfl:=oI h
 exact runF2 hm ⟨[6],[(0,0,true),(1,1,false),(2,2,false),(3,3,false),(4,4,false),(6,6,false),(7,7,false),(8,8,true)],9,0,[],false,[],[],[]⟩ (yy 6 (.call (qod_ a0 a3 a4 a5 a6 a2 c1_ [(0,1,false),(1,2,false),(2,3,false),(3,0,true),(4,4,false),(5,5,true),(6,6,false),(7,7,false)] [(1,0,false),(2,1,false),(3,2,false),(0,3,true),(4,4,false),(6,6,false),(7,7,false),(8,8,true)])) <|
  ww (qmg_ n a0 a3 a4 a5 a6 a2 c1_ hc1) <|
  ww (qa_ rwf_iiiiiiLu a0 35) <|
  ww (qc_ a4 3) <|
  ww (qa_ rwf_iiiiiiLu a0 35) <|
  ww (qc_ c1_ 3) <|
  zz 13 (xk13 0 U8 hc2) <|
  zz 15 (ok18 hc4 (hc3)) <|
  ww (p:=qt2_ none a0 a3 a5 a6 a1 (c4_.2.2.2.2.2.2.1) ((((c4_.2.2.2.2.2.2.1)).l.length:Nat):Int) (c1_,0) c5_) (qqv_ rec_treevisitq2 hrec_treevisitq2 n a0 a3 a5 a6 a1 (c4_.2.2.2.2.2.2.1) ((((c4_.2.2.2.2.2.2.1)).l.length:Nat):Int) (c1_,0) c5_ hc5) <|
  ww (qa_ rwf_iiiiiiLu a0 35) <|
  ww (qc_ c1_ 3) <|
  ll 19 ⟨⟨[0,2,17,18,19],[(0,0,true),(1,1,false),(2,2,false),(3,3,false),(4,4,false),(6,6,false),(7,7,false),(8,8,true)],9,0,[],false,[],[],[]⟩,(qe6_ a0 a3 a5 a6 a1 (c4_.2.2.2.2.2.2.1) ((((c4_.2.2.2.2.2.2.1)).l.length:Nat):Int) c5_).1,(qe6_ a0 a3 a5 a6 a1 (c4_.2.2.2.2.2.2.1) ((((c4_.2.2.2.2.2.2.1)).l.length:Nat):Int) c5_).2⟩ <|
  ww (qa_ rwf_iiiiiiLu a0 35) <|
  ww (qc_ c5_ 3) <|
  ee) (by kernel_rfl)
def qcl_:Nat→(List R8)→(Nat)→(Int)→(Nat)→(List Int)→(Nat)→(Int)→Option (List Int)
 | 0=>fun _ _ _ _ _ _ _=>none
 | n+1=>fun a0 a1 a2 a3 a4 a5 a6=>qfi_ (qcl_ n) n a0 a1 a2 a3 a4 a5 a6
theorem qnv_:∀ (n:Nat) (a0:List R8) (a1:Nat) (a2:Int) (a3:Nat) (a4:List Int) (a5:Nat) (a6:Int) (r:List Int) (h:qcl_ n a0 a1 a2 a3 a4 a5 a6=some r),Gv P (.func 99) (qhc_ a0 a1 a2 a3 a4 a5 a6) (qhd_ a0 a1 a2 a3 a4 a5 a6) (qfg_ a0 a1 a2 a3 a4 a5 a6 r) (qfh_ a0 a1 a2 a3 a4 a5 a6 r)
 | 0,_,_,_,_,_,_,_,_,h=>nomatch h
 | n+1,a0,a1,a2,a3,a4,a5,a6,r,h=>qtm_ (qcl_ n) (qnv_ n) n a0 a1 a2 a3 a4 a5 a6 r h

def qhe_ (a0:List R8)(a1:Nat)(a2:Int)(a3 a4:Nat)(a5:Int):List Value:=[(sN 0 0 a1 (Nat.add big 8)),(i6 a2),(Value.func (.yield 1) #[] #[])]
def qhf_ (a0:List R8)(a1:Nat)(a2:Int)(a3 a4:Nat)(a5:Int):AH:=⟨sB [(0,(some (.cells (layT (rows rw_iiiiiiLu a0)) 35))),(1,(some (rblk P 36 [false,true,false,true,true,true] .ready none [(1,(pN 3 0)),(3,(pN 4 0)),(9,(Value.func (.func 98) #[] #[(pN 5 0),(pN 6 0)]))] 2))),(2,(some (.marks true))),(3,(some (.cells (layT [(sN 0 0 a3 (Nat.add big 8))]) 22))),(4,(some (.cells (layT [(Value.slice none 0 0)]) 29))),(5,(some (.cells (layT [(sN 0 0 a4 (Nat.add big 8))]) 22))),(6,(some (.cells (layT [(i6 a5)]) 3)))],7,7⟩
def qfj_ (a0:List R8)(a1:Nat)(a2:Int)(a3 a4:Nat)(a5:Int)(r:List Int):Value:=match r with
 | o0=>(bO true)
def qfk_ (a0:List R8)(a1:Nat)(a2:Int)(a3 a4:Nat)(a5:Int)(r:List Int):AH:=match r with
 | o0=>⟨sB [(0,(some (.cells (layT (rows rw_iiiiiiLu a0)) 35))),(1,(some (rblk P 36 [false,true,false,true,true,true] .ready none [(1,(pN 3 0)),(3,(pN 4 0)),(9,(Value.func (.func 98) #[] #[(pN 5 0),(pN 6 0)]))] 2))),(2,(some (.marks true))),(3,(some (.cells (layT [(sN 0 0 a3 (Nat.add big 8))]) 22))),(4,(some (.cells (layT [(slN o0 7)]) 29))),(5,(some (.cells (layT [(sN 0 0 a4 (Nat.add big 8))]) 22))),(6,(some (.cells (layT [(i6 a5)]) 3))),(7,(nblk o0 3))],8,0⟩
abbrev G_treevisitq1 (a0:List R8)(a1:Nat)(a2:Int)(a3 a4:Nat)(a5:Int)(r:List Int):Prop:=Gv P (.func 99) (qhe_ a0 a1 a2 a3 a4 a5) (qhf_ a0 a1 a2 a3 a4 a5) (qfj_ a0 a1 a2 a3 a4 a5 r) (qfk_ a0 a1 a2 a3 a4 a5 r)
abbrev qk5_ (a0:List R8)(a1:Nat)(a2:Int)(a3 a4:Nat)(a5:Int)(r:List Int)(ins outs:BL):CallA:=⟨7,ins,qfj_ a0 a1 a2 a3 a4 a5 r,qfk_ a0 a1 a2 a3 a4 a5 r,outs⟩
def qe7_ (x0:List R8)(x1 x3:Nat)(x4:Int)(x5:Nat)(x6:NL)(x7:Int)(st:List Int×Int):XSt:=match st with
 | (x2,x8)=>(sT 29 [(0,(sN 0 0 x5 (Nat.add big 8))),(2,(Value.func (.yield 1) #[] #[])),(17,(nlV x6)),(18,(i6 x7)),(19,(i6 x8))],[],⟨sB [(0,(some (.cells (layT (rows rw_iiiiiiLu x0)) 35))),(1,(some (rblk P 36 [false,true,false,true,true,true] .ready none [(1,(pN 3 0)),(3,(pN 4 0)),(9,(Value.func (.func 98) #[] #[(pN 5 0),(pN 6 0)]))] 2))),(2,(some (.marks true))),(3,(some (.cells (layT [(sN 0 0 x1 (Nat.add big 8))]) 22))),(4,(some (.cells (layT [(slN x2 7)]) 29))),(5,(some (.cells (layT [(sN 0 0 x3 (Nat.add big 8))]) 22))),(6,(some (.cells (layT [(i6 x4)]) 3))),(7,(nblk x2 3))],8,0⟩)
def qbm_ (x0:List R8)(x1 x3:Nat)(x4:Int)(x5:Nat)(x6:NL)(x7:Int)(r:List Int):Ex×XSt:=match r with
 | z0=>(.exit 0,(sT 29 [],[],⟨sB [(0,(some (.cells (layT (rows rw_iiiiiiLu x0)) 35))),(1,(some (rblk P 36 [false,true,false,true,true,true] .ready none [(1,(pN 3 0)),(3,(pN 4 0)),(9,(Value.func (.func 98) #[] #[(pN 5 0),(pN 6 0)]))] 2))),(2,(some (.marks true))),(3,(some (.cells (layT [(sN 0 0 x1 (Nat.add big 8))]) 22))),(4,(some (.cells (layT [(slN z0 7)]) 29))),(5,(some (.cells (layT [(sN 0 0 x3 (Nat.add big 8))]) 22))),(6,(some (.cells (layT [(i6 x4)]) 3))),(7,(nblk z0 3))],8,0⟩))
abbrev Q_treevisitq1_1 (rnd:Option Nat)(x0:List R8)(x1 x3:Nat)(x4:Int)(x5:Nat)(x6:NL)(x7:Int)(st:List Int×Int)(c:Ex×XSt):Prop:=CG P rnd (fnN P 99) 7 (qo_ P 99 [false,false,true,false,true,true]) (qe7_ x0 x1 x3 x4 x5 x6 x7 st) c
abbrev qim_ (rd:Option Nat)(x0:List R8)(x1 x3:Nat)(x4:Int)(x5:Nat)(x6:NL)(x7:Int)(st:List Int×Int)(r:List Int):Prop:=CG P rd (fnN P 99) 7 (qo_ P 99 [false,true,false,true,true]) (qe7_ x0 x1 x3 x4 x5 x6 x7 st) (qbm_ x0 x1 x3 x4 x5 x6 x7 r)
def qbn_ (rec_treevisitq1:(List R8)→(Nat)→(Int)→(Nat)→(Nat)→(Int)→Option (List Int))(n:Nat)(x0:List R8)(x1 x3:Nat)(x4:Int)(x5:Nat)(x6:NL)(x7:Int)(st:List Int×Int):Option ((List Int×Int) ⊕ (List Int)):=match st with
 | (x2,x8)=>
  match x2 with
  | []=>
   if x8<x7 then
    if 0≤x8∧x8<(((x6).l.length:Nat):Int) then
     if (x8).toNat<((x6).l).length then
      ((some (((x6).l).getD (x8).toNat 0))).bind fun y4_=>
      (rec_treevisitq1 x0 x5 y4_ x1 x3 x4).bind fun y5_=>
      match y5_ with
      | []=>
       some (.inl (([]:List Int),(w64 (x8+1))))
      | y1_5_a::y1_5_t=>
       some (.inl ((y1_5_a::y1_5_t),(w64 (x8+1))))
     else none
    else none
   else
    some (.inr ([]:List Int))
  | x2a::x2t=>
   if x8<x7 then
    if 0≤x8∧x8<(((x6).l.length:Nat):Int) then
     if (x8).toNat<((x6).l).length then
      ((some (((x6).l).getD (x8).toNat 0))).bind fun y4_=>
      (qcl_ n x0 x5 y4_ x1 (x2a::x2t) x3 x4).bind fun y5_=>
      match y5_ with
      | []=>
       none
      | y1_5_a::y1_5_t=>
       some (.inl ((y1_5_a::y1_5_t),(w64 (x8+1))))
     else none
    else none
   else
    some (.inr (x2a::x2t))
def qgs_ (rec_treevisitq1:(List R8)→(Nat)→(Int)→(Nat)→(Nat)→(Int)→Option (List Int))(n:Nat)(x0:List R8)(x1 x3:Nat)(x4:Int)(x5:Nat)(x6:NL)(x7:Int)(st:List Int×Int):Option (List Int):=iterM (qbn_ rec_treevisitq1 n x0 x1 x3 x4 x5 x6 x7) n st
theorem qop_ (rec_treevisitq1:(List R8)→(Nat)→(Int)→(Nat)→(Nat)→(Int)→Option (List Int))(hrec_treevisitq1:∀ (a0:List R8) (a1:Nat) (a2:Int) (a3:Nat) (a4:Nat) (a5:Int) (r:List Int),rec_treevisitq1 a0 a1 a2 a3 a4 a5=some r→Gv P (.func 99) (qhe_ a0 a1 a2 a3 a4 a5) (qhf_ a0 a1 a2 a3 a4 a5) (qfj_ a0 a1 a2 a3 a4 a5 r) (qfk_ a0 a1 a2 a3 a4 a5 r))(n:Nat){rnd:Option Nat}(x0:List R8)(x1 x3:Nat)(x4:Int)(x5:Nat)(x6:NL)(x7:Int)(st:List Int×Int)(o:(List Int×Int) ⊕ (List Int))(h:qbn_ rec_treevisitq1 n x0 x1 x3 x4 x5 x6 x7 st=some o):CG P rnd (fnN P 99) 7 (qo_ P 99 [false,false,true,false,true,true]) (qe7_ x0 x1 x3 x4 x5 x6 x7 st) (Sum.elim (fun s=>(.normal,qe7_ x0 x1 x3 x4 x5 x6 x7 s)) (fun r=>qbm_ x0 x1 x3 x4 x5 x6 x7 r) o):=by
 obtain⟨x2,x8⟩:=st
 unfold qbn_ at h
 dsimp only at h
 cases x2 with
 | nil=>
  dsimp only at h
  by_cases hy1:x8<x7
  ·rw[if_pos hy1] at h
   obtain⟨hy2,h⟩:=gd h
   obtain⟨hy3,h⟩:=gd h
   obtain⟨y4_,hy4,h⟩:=oB h
   obtain⟨y5_,hy5,h⟩:=oB h
   have k0:=fun {A L l} (k:PL A L l)=>zz 1 (xdT hy1) <|
    zz 7 (xk9 (Nat.add (x6).num 64) (x6).off (x6).cap hy2) <|
    zz 8 (nk10 hy4 hy3) <|
    k
   cases y5_ with
   | nil=>
    dsimp only at h
    obtain rfl:=oI h
    exact runC2 hm ⟨[0,2,17,18,19],[(0,0,true),(1,1,false),(2,2,false),(3,3,false),(4,4,false),(5,5,false),(6,6,false)],8,0,[],false,[],[],[]⟩ (k0 <|
     yy 14 (.call (qk5_ x0 x5 y4_ x1 x3 x4 ([]:List Int) [(0,0,true),(1,1,false),(2,2,false),(3,3,false),(4,4,false),(5,5,false),(6,6,false)] [(0,0,true),(1,1,false),(2,2,false),(3,3,false),(4,4,false),(5,5,false),(6,6,false)])) <|
     ww (hrec_treevisitq1 x0 x5 y4_ x1 x3 x4 ([]:List Int) hy5) <|
     ww (qa_ rwf_iiiiiiLu x0 35) <|
     ww (qa_ rwf_iiiiiiLu x0 35) <|
     ww (qa_ rwf_iiiiiiLu x0 35) <|
     ee) (by kernel_rfl)
   | cons y1_5_a y1_5_t=>
    dsimp only at h
    obtain rfl:=oI h
    exact runC2 hm ⟨[0,2,17,18,19],[(0,0,true),(1,1,false),(2,2,false),(3,3,false),(4,4,false),(5,5,false),(6,6,false),(7,8,true)],8,0,[],false,[],[],[]⟩ (k0 <|
     yy 14 (.call (qk5_ x0 x5 y4_ x1 x3 x4 (y1_5_a::y1_5_t) [(0,0,true),(1,1,false),(2,2,false),(3,3,false),(4,4,false),(5,5,false),(6,6,false)] [(0,0,true),(1,1,false),(2,2,false),(3,3,false),(4,4,false),(5,5,false),(6,6,false),(8,7,true)])) <|
     ww (hrec_treevisitq1 x0 x5 y4_ x1 x3 x4 (y1_5_a::y1_5_t) hy5) <|
     ww (qa_ rwf_iiiiiiLu x0 35) <|
     ww (qa_ rwf_iiiiiiLu x0 35) <|
     ww (qc_ (y1_5_a::y1_5_t) 3) <|
     ww (qa_ rwf_iiiiiiLu x0 35) <|
     ww (qc_ (y1_5_a::y1_5_t) 3) <|
     ee) (by kernel_rfl)
  ·rw[if_neg hy1] at h
   obtain rfl:=oI h
   exact runC2 hm ⟨[],[(0,0,true),(1,1,false),(2,2,false),(3,3,false),(4,4,false),(5,5,false),(6,6,false)],8,0,[],false,[],[],[]⟩ (zz 1 (xdF hy1) <|
    ww (qa_ rwf_iiiiiiLu x0 35) <|
    ee) (by kernel_rfl)
 | cons x2a x2t=>
  dsimp only at h
  by_cases hy1:x8<x7
  ·rw[if_pos hy1] at h
   obtain⟨hy2,h⟩:=gd h
   obtain⟨hy3,h⟩:=gd h
   obtain⟨y4_,hy4,h⟩:=oB h
   obtain⟨y5_,hy5,h⟩:=oB h
   have k0:=fun {A L l} (k:PL A L l)=>zz 1 (xdT hy1) <|
    zz 7 (xk9 (Nat.add (x6).num 64) (x6).off (x6).cap hy2) <|
    zz 8 (nk10 hy4 hy3) <|
    k
   cases y5_ with
   | nil=>
    dsimp only at h
    cases h
   | cons y1_5_a y1_5_t=>
    dsimp only at h
    obtain rfl:=oI h
    exact runC2 hm ⟨[0,2,17,18,19],[(0,0,true),(1,1,false),(2,2,false),(3,3,false),(4,4,false),(5,5,false),(6,6,false),(7,8,true)],8,0,[],false,[],[],[]⟩ (k0 <|
     yy 14 (.call (qrh_ x0 x5 y4_ x1 (x2a::x2t) x3 x4 (y1_5_a::y1_5_t) [(0,0,true),(1,1,false),(2,2,false),(3,3,false),(4,4,false),(5,7,true),(6,5,false),(7,6,false)] [(0,0,true),(1,1,false),(2,2,false),(3,3,false),(4,4,false),(5,6,false),(6,7,false),(8,8,true)])) <|
     ww (qnv_ n x0 x5 y4_ x1 (x2a::x2t) x3 x4 (y1_5_a::y1_5_t) hy5) <|
     ww (qa_ rwf_iiiiiiLu x0 35) <|
     ww (qc_ (x2a::x2t) 3) <|
     ww (qa_ rwf_iiiiiiLu x0 35) <|
     ww (qc_ (y1_5_a::y1_5_t) 3) <|
     ww (qa_ rwf_iiiiiiLu x0 35) <|
     ww (qc_ (y1_5_a::y1_5_t) 3) <|
     ee) (by kernel_rfl)
  ·rw[if_neg hy1] at h
   obtain rfl:=oI h
   exact runC2 hm ⟨[],[(0,0,true),(1,1,false),(2,2,false),(3,3,false),(4,4,false),(5,5,false),(6,6,false),(7,7,true)],8,0,[],false,[],[],[]⟩ (zz 1 (xdF hy1) <|
    ww (qa_ rwf_iiiiiiLu x0 35) <|
    ww (qc_ (x2a::x2t) 3) <|
    ee) (by kernel_rfl)
theorem qf0_ (rec_treevisitq1:(List R8)→(Nat)→(Int)→(Nat)→(Nat)→(Int)→Option (List Int))(hrec_treevisitq1:∀ (a0:List R8) (a1:Nat) (a2:Int) (a3:Nat) (a4:Nat) (a5:Int) (r:List Int),rec_treevisitq1 a0 a1 a2 a3 a4 a5=some r→Gv P (.func 99) (qhe_ a0 a1 a2 a3 a4 a5) (qhf_ a0 a1 a2 a3 a4 a5) (qfj_ a0 a1 a2 a3 a4 a5 r) (qfk_ a0 a1 a2 a3 a4 a5 r))(n:Nat){rnd:Option Nat}(x0:List R8)(x1 x3:Nat)(x4:Int)(x5:Nat)(x6:NL)(x7:Int)(st:List Int×Int)(r:List Int)(h:qgs_ rec_treevisitq1 n x0 x1 x3 x4 x5 x6 x7 st=some r):CG P rnd (fnN P 99) 7 (qo_ P 99 [false,true,false,true,true]) (qe7_ x0 x1 x3 x4 x5 x6 x7 st) (qbm_ x0 x1 x3 x4 x5 x6 x7 r):=
 CG.iter (b:=qo_ P 99 [false,false,true,false,true,true]) (by kernel_rfl) (body:=qbn_ rec_treevisitq1 n x0 x1 x3 x4 x5 x6 x7) (S:=qe7_ x0 x1 x3 x4 x5 x6 x7) (X:=qbm_ x0 x1 x3 x4 x5 x6 x7)
  (fun s s' h=>qop_ rec_treevisitq1 hrec_treevisitq1 n x0 x1 x3 x4 x5 x6 x7 s (.inl s') h)
  (fun s r h=>qop_ rec_treevisitq1 hrec_treevisitq1 n x0 x1 x3 x4 x5 x6 x7 s (.inr r) h)
  (fun r=>by intro hx; cases hx) h
def qfl_ (rec_treevisitq1:(List R8)→(Nat)→(Int)→(Nat)→(Nat)→(Int)→Option (List Int))(n:Nat)(a0:List R8)(a1:Nat)(a2:Int)(a3 a4:Nat)(a5:Int):Option (List Int):=
 (qda_ n a0 a3 a4 a5 a2).bind fun c1_=>
 match c1_ with
 | []=>
  if 0≤a2∧a2<((a1:Nat):Int) then
   if (a2).toNat<(a0).length then
    ((some ((a0).getD (a2).toNat (0,0,0,0,0,0,nl0,0)))).bind fun c4_=>
    (qgs_ rec_treevisitq1 n a0 a3 a4 a5 a1 (c4_.2.2.2.2.2.2.1) ((((c4_.2.2.2.2.2.2.1)).l.length:Nat):Int) (([]:List Int),0)).bind fun c5_=>
    match c5_ with
    | []=>
     some ([]:List Int)
    | c5_a::c5_t=>
     some (c5_a::c5_t)
   else none
  else none
 | c1_a::c1_t=>
  if 0≤a2∧a2<((a1:Nat):Int) then
   if (a2).toNat<(a0).length then
    ((some ((a0).getD (a2).toNat (0,0,0,0,0,0,nl0,0)))).bind fun c4_=>
    (qgs_ rec_treevisitq1 n a0 a3 a4 a5 a1 (c4_.2.2.2.2.2.2.1) ((((c4_.2.2.2.2.2.2.1)).l.length:Nat):Int) ((c1_a::c1_t),0)).bind fun c5_=>
    match c5_ with
    | []=>
     some ([]:List Int)
    | c5_a::c5_t=>
     some (c5_a::c5_t)
   else none
  else none
theorem qtn_ (rec_treevisitq1:(List R8)→(Nat)→(Int)→(Nat)→(Nat)→(Int)→Option (List Int))(hrec_treevisitq1:∀ (a0:List R8) (a1:Nat) (a2:Int) (a3:Nat) (a4:Nat) (a5:Int) (r:List Int),rec_treevisitq1 a0 a1 a2 a3 a4 a5=some r→Gv P (.func 99) (qhe_ a0 a1 a2 a3 a4 a5) (qhf_ a0 a1 a2 a3 a4 a5) (qfj_ a0 a1 a2 a3 a4 a5 r) (qfk_ a0 a1 a2 a3 a4 a5 r))(n:Nat)(a0:List R8)(a1:Nat)(a2:Int)(a3 a4:Nat)(a5:Int)(r:List Int)(h:qfl_ rec_treevisitq1 n a0 a1 a2 a3 a4 a5=some r):Gv P (.func 99) (qhe_ a0 a1 a2 a3 a4 a5) (qhf_ a0 a1 a2 a3 a4 a5) (qfj_ a0 a1 a2 a3 a4 a5 r) (qfk_ a0 a1 a2 a3 a4 a5 r):=by
 unfold qfl_ at h
 obtain⟨c1_,hc1,h⟩:=oB h
 cases c1_ with
 | nil=>
  dsimp only at h
  obtain⟨hc2,h⟩:=gd h
  obtain⟨hc3,h⟩:=gd h
  obtain⟨c4_,hc4,h⟩:=oB h
  obtain⟨c5_,hc5,h⟩:=oB h
  have k0:=fun {A L l} (k:PL A L l)=>yy 6 (.call (qjr_ a0 a3 a4 a5 a2 ([]:List Int) [(0,1,false),(1,2,false),(2,3,false),(3,0,true),(4,4,false),(5,5,false),(6,6,false)] [(1,0,false),(2,1,false),(3,2,false),(0,3,true),(4,4,false),(5,5,false),(6,6,false)])) <|
   ww (qhx_ n a0 a3 a4 a5 a2 ([]:List Int) hc1) <|
   ww (qa_ rwf_iiiiiiLu a0 35) <|
   ww (qa_ rwf_iiiiiiLu a0 35) <|
   zz 13 (xk13 0 U8 hc2) <|
   zz 15 (ok18 hc4 (hc3)) <|
   k
  cases c5_ with
  | nil=>
   dsimp only at h
   obtain rfl:=oI h
   exact runF2 hm ⟨[6],[(0,0,true),(1,1,false),(2,2,false),(3,3,false),(4,4,false),(5,5,false),(6,6,false)],8,0,[],false,[],[],[]⟩ (k0 <|
    ww (p:=qim_ none a0 a3 a4 a5 a1 (c4_.2.2.2.2.2.2.1) ((((c4_.2.2.2.2.2.2.1)).l.length:Nat):Int) (([]:List Int),0) ([]:List Int)) (qf0_ rec_treevisitq1 hrec_treevisitq1 n a0 a3 a4 a5 a1 (c4_.2.2.2.2.2.2.1) ((((c4_.2.2.2.2.2.2.1)).l.length:Nat):Int) (([]:List Int),0) ([]:List Int) hc5) <|
    ww (qa_ rwf_iiiiiiLu a0 35) <|
    ll 19 ⟨⟨[0,2,17,18,19],[(0,0,true),(1,1,false),(2,2,false),(3,3,false),(4,4,false),(5,5,false),(6,6,false)],8,0,[],false,[],[],[]⟩,(qbm_ a0 a3 a4 a5 a1 (c4_.2.2.2.2.2.2.1) ((((c4_.2.2.2.2.2.2.1)).l.length:Nat):Int) ([]:List Int)).1,(qbm_ a0 a3 a4 a5 a1 (c4_.2.2.2.2.2.2.1) ((((c4_.2.2.2.2.2.2.1)).l.length:Nat):Int) ([]:List Int)).2⟩ <|
    ww (qa_ rwf_iiiiiiLu a0 35) <|
    ee) (by kernel_rfl)
  | cons c5_a c5_t=>
   dsimp only at h
   obtain rfl:=oI h
   exact runF2 hm ⟨[6],[(0,0,true),(1,1,false),(2,2,false),(3,3,false),(4,4,false),(5,5,false),(6,6,false),(7,7,true)],8,0,[],false,[],[],[]⟩ (k0 <|
    ww (p:=qim_ none a0 a3 a4 a5 a1 (c4_.2.2.2.2.2.2.1) ((((c4_.2.2.2.2.2.2.1)).l.length:Nat):Int) (([]:List Int),0) (c5_a::c5_t)) (qf0_ rec_treevisitq1 hrec_treevisitq1 n a0 a3 a4 a5 a1 (c4_.2.2.2.2.2.2.1) ((((c4_.2.2.2.2.2.2.1)).l.length:Nat):Int) (([]:List Int),0) (c5_a::c5_t) hc5) <|
    ww (qa_ rwf_iiiiiiLu a0 35) <|
    ll 19 ⟨⟨[0,2,17,18,19],[(0,0,true),(1,1,false),(2,2,false),(3,3,false),(4,4,false),(5,5,false),(6,6,false)],8,0,[],false,[],[],[]⟩,(qbm_ a0 a3 a4 a5 a1 (c4_.2.2.2.2.2.2.1) ((((c4_.2.2.2.2.2.2.1)).l.length:Nat):Int) (c5_a::c5_t)).1,(qbm_ a0 a3 a4 a5 a1 (c4_.2.2.2.2.2.2.1) ((((c4_.2.2.2.2.2.2.1)).l.length:Nat):Int) (c5_a::c5_t)).2⟩ <|
    ww (qa_ rwf_iiiiiiLu a0 35) <|
    ww (qc_ (c5_a::c5_t) 3) <|
    ee) (by kernel_rfl)
 | cons c1_a c1_t=>
  dsimp only at h
  obtain⟨hc2,h⟩:=gd h
  obtain⟨hc3,h⟩:=gd h
  obtain⟨c4_,hc4,h⟩:=oB h
  obtain⟨c5_,hc5,h⟩:=oB h
  have k0:=fun {A L l} (k:PL A L l)=>yy 6 (.call (qjr_ a0 a3 a4 a5 a2 (c1_a::c1_t) [(0,1,false),(1,2,false),(2,3,false),(3,0,true),(4,4,false),(5,5,false),(6,6,false)] [(1,0,false),(2,1,false),(3,2,false),(0,3,true),(4,4,false),(5,5,false),(6,6,false),(7,7,true)])) <|
   ww (qhx_ n a0 a3 a4 a5 a2 (c1_a::c1_t) hc1) <|
   ww (qa_ rwf_iiiiiiLu a0 35) <|
   ww (qa_ rwf_iiiiiiLu a0 35) <|
   ww (qc_ (c1_a::c1_t) 3) <|
   zz 13 (xk13 0 U8 hc2) <|
   zz 15 (ok18 hc4 (hc3)) <|
   k
  cases c5_ with
  | nil=>
   dsimp only at h
   obtain rfl:=oI h
   exact runF2 hm ⟨[6],[(0,0,true),(1,1,false),(2,2,false),(3,3,false),(4,4,false),(5,5,false),(6,6,false)],8,0,[],false,[],[],[]⟩ (k0 <|
    ww (p:=qim_ none a0 a3 a4 a5 a1 (c4_.2.2.2.2.2.2.1) ((((c4_.2.2.2.2.2.2.1)).l.length:Nat):Int) ((c1_a::c1_t),0) ([]:List Int)) (qf0_ rec_treevisitq1 hrec_treevisitq1 n a0 a3 a4 a5 a1 (c4_.2.2.2.2.2.2.1) ((((c4_.2.2.2.2.2.2.1)).l.length:Nat):Int) ((c1_a::c1_t),0) ([]:List Int) hc5) <|
    ww (qa_ rwf_iiiiiiLu a0 35) <|
    ww (qc_ (c1_a::c1_t) 3) <|
    ll 19 ⟨⟨[0,2,17,18,19],[(0,0,true),(1,1,false),(2,2,false),(3,3,false),(4,4,false),(5,5,false),(6,6,false),(7,7,true)],8,0,[],false,[],[],[]⟩,(qbm_ a0 a3 a4 a5 a1 (c4_.2.2.2.2.2.2.1) ((((c4_.2.2.2.2.2.2.1)).l.length:Nat):Int) ([]:List Int)).1,(qbm_ a0 a3 a4 a5 a1 (c4_.2.2.2.2.2.2.1) ((((c4_.2.2.2.2.2.2.1)).l.length:Nat):Int) ([]:List Int)).2⟩ <|
    ww (qa_ rwf_iiiiiiLu a0 35) <|
    ee) (by kernel_rfl)
  | cons c5_a c5_t=>
   dsimp only at h
   obtain rfl:=oI h
   exact runF2 hm ⟨[6],[(0,0,true),(1,1,false),(2,2,false),(3,3,false),(4,4,false),(5,5,false),(6,6,false),(7,7,true)],8,0,[],false,[],[],[]⟩ (k0 <|
    ww (p:=qim_ none a0 a3 a4 a5 a1 (c4_.2.2.2.2.2.2.1) ((((c4_.2.2.2.2.2.2.1)).l.length:Nat):Int) ((c1_a::c1_t),0) (c5_a::c5_t)) (qf0_ rec_treevisitq1 hrec_treevisitq1 n a0 a3 a4 a5 a1 (c4_.2.2.2.2.2.2.1) ((((c4_.2.2.2.2.2.2.1)).l.length:Nat):Int) ((c1_a::c1_t),0) (c5_a::c5_t) hc5) <|
    ww (qa_ rwf_iiiiiiLu a0 35) <|
    ww (qc_ (c1_a::c1_t) 3) <|
    ll 19 ⟨⟨[0,2,17,18,19],[(0,0,true),(1,1,false),(2,2,false),(3,3,false),(4,4,false),(5,5,false),(6,6,false),(7,7,true)],8,0,[],false,[],[],[]⟩,(qbm_ a0 a3 a4 a5 a1 (c4_.2.2.2.2.2.2.1) ((((c4_.2.2.2.2.2.2.1)).l.length:Nat):Int) (c5_a::c5_t)).1,(qbm_ a0 a3 a4 a5 a1 (c4_.2.2.2.2.2.2.1) ((((c4_.2.2.2.2.2.2.1)).l.length:Nat):Int) (c5_a::c5_t)).2⟩ <|
    ww (qa_ rwf_iiiiiiLu a0 35) <|
    ww (qc_ (c5_a::c5_t) 3) <|
    ee) (by kernel_rfl)
def qbv_:Nat→(List R8)→(Nat)→(Int)→(Nat)→(Nat)→(Int)→Option (List Int)
 | 0=>fun _ _ _ _ _ _=>none
 | n+1=>fun a0 a1 a2 a3 a4 a5=>qfl_ (qbv_ n) n a0 a1 a2 a3 a4 a5
theorem qkj_:∀ (n:Nat) (a0:List R8) (a1:Nat) (a2:Int) (a3:Nat) (a4:Nat) (a5:Int) (r:List Int) (h:qbv_ n a0 a1 a2 a3 a4 a5=some r),Gv P (.func 99) (qhe_ a0 a1 a2 a3 a4 a5) (qhf_ a0 a1 a2 a3 a4 a5) (qfj_ a0 a1 a2 a3 a4 a5 r) (qfk_ a0 a1 a2 a3 a4 a5 r)
 | 0,_,_,_,_,_,_,_,h=>nomatch h
 | n+1,a0,a1,a2,a3,a4,a5,r,h=>qtn_ (qbv_ n) (qkj_ n) n a0 a1 a2 a3 a4 a5 r h

def qoq_ (a0:List R8)(a1 a2:Nat)(a3:Int):List Value:=[(Value.func (.yield 0) #[] #[]),(pN 5 0),(pN 6 0)]
def qor_ (a0:List R8)(a1 a2:Nat)(a3:Int):AH:=⟨sB [(0,(some (rblk P 36 [false,true,false,true,true,true] .ready none [(1,(pN 2 0)),(3,(pN 4 0)),(9,(Value.func (.func 98) #[] #[(pN 5 0),(pN 6 0)]))] 1))),(1,(some (.marks true))),(2,(some (.cells (layT [(sN 3 0 a1 (Nat.add big 8))]) 22))),(3,(some (.cells (layT (rows rw_iiiiiiLu a0)) 35))),(4,(some (.cells (layT [(Value.slice none 0 0)]) 29))),(5,(some (.cells (layT [(sN 3 0 a2 (Nat.add big 8))]) 22))),(6,(some (.cells (layT [(i6 a3)]) 3)))],7,7⟩
def qld_ (a0:List R8)(a1 a2:Nat)(a3:Int)(r:List Int):Value:=match r with
 | o0=>(Value.tuple #[])
def qle_ (a0:List R8)(a1 a2:Nat)(a3:Int)(r:List Int):AH:=match r with
 | o0=>⟨sB [(0,(some (rblk P 36 [false,true,false,true,true,true] .ready none [(1,(pN 2 0)),(3,(pN 4 0)),(9,(Value.func (.func 98) #[] #[(pN 5 0),(pN 6 0)]))] 1))),(1,(some (.marks true))),(2,(some (.cells (layT [(sN 3 0 a1 (Nat.add big 8))]) 22))),(3,(some (.cells (layT (rows rw_iiiiiiLu a0)) 35))),(4,(some (.cells (layT [(slN o0 7)]) 29))),(5,(some (.cells (layT [(sN 3 0 a2 (Nat.add big 8))]) 22))),(6,(some (.cells (layT [(i6 a3)]) 3))),(7,(nblk o0 3))],8,0⟩
abbrev G_treeplaces1q1 (a0:List R8)(a1 a2:Nat)(a3:Int)(r:List Int):Prop:=Gv P (.func 98) (qoq_ a0 a1 a2 a3) (qor_ a0 a1 a2 a3) (qld_ a0 a1 a2 a3 r) (qle_ a0 a1 a2 a3 r)
abbrev qos_ (a0:List R8)(a1 a2:Nat)(a3:Int)(r:List Int)(ins outs:BL):CallA:=⟨7,ins,qld_ a0 a1 a2 a3 r,qle_ a0 a1 a2 a3 r,outs⟩
def qin_ (n:Nat)(a0:List R8)(a1 a2:Nat)(a3:Int):Option (List Int):=
 (qbv_ n a0 a2 a3 a1 a2 a3).bind fun c1_=>
 match c1_ with
 | []=>
  some ([]:List Int)
 | c1_a::c1_t=>
  some (c1_a::c1_t)
theorem ql0_ (n:Nat)(a0:List R8)(a1 a2:Nat)(a3:Int)(r:List Int)(h:qin_ n a0 a1 a2 a3=some r):Gv P (.func 98) (qoq_ a0 a1 a2 a3) (qor_ a0 a1 a2 a3) (qld_ a0 a1 a2 a3 r) (qle_ a0 a1 a2 a3 r):=by
 unfold qin_ at h
 obtain⟨c1_,hc1,h⟩:=oB h
 cases c1_ with
 | nil=>
  dsimp only at h
  obtain rfl:=oI h
  exact runF2 hm ⟨[],[(0,0,false),(1,1,false),(2,2,false),(3,3,true),(4,4,false),(5,5,false),(6,6,false)],8,0,[],false,[],[],[]⟩ (yy 3 (.call (qk5_ a0 a2 a3 a1 a2 a3 ([]:List Int) [(0,3,true),(1,0,false),(2,1,false),(3,2,false),(4,4,false),(5,5,false),(6,6,false)] [(3,0,true),(0,1,false),(1,2,false),(2,3,false),(4,4,false),(5,5,false),(6,6,false)])) <|
   ww (qkj_ n a0 a2 a3 a1 a2 a3 ([]:List Int) hc1) <|
   ww (qa_ rwf_iiiiiiLu a0 35) <|
   ww (qa_ rwf_iiiiiiLu a0 35) <|
   ww (qa_ rwf_iiiiiiLu a0 35) <|
   ee) (by kernel_rfl)
 | cons c1_a c1_t=>
  dsimp only at h
  obtain rfl:=oI h
  exact runF2 hm ⟨[],[(0,0,false),(1,1,false),(2,2,false),(3,3,true),(4,4,false),(5,5,false),(6,6,false),(7,7,true)],8,0,[],false,[],[],[]⟩ (yy 3 (.call (qk5_ a0 a2 a3 a1 a2 a3 (c1_a::c1_t) [(0,3,true),(1,0,false),(2,1,false),(3,2,false),(4,4,false),(5,5,false),(6,6,false)] [(3,0,true),(0,1,false),(1,2,false),(2,3,false),(4,4,false),(5,5,false),(6,6,false),(7,7,true)])) <|
   ww (qkj_ n a0 a2 a3 a1 a2 a3 (c1_a::c1_t) hc1) <|
   ww (qa_ rwf_iiiiiiLu a0 35) <|
   ww (qa_ rwf_iiiiiiLu a0 35) <|
   ww (qc_ (c1_a::c1_t) 3) <|
   ww (qa_ rwf_iiiiiiLu a0 35) <|
   ww (qc_ (c1_a::c1_t) 3) <|
   ee) (by kernel_rfl)

def qpw_ (a0:List R8)(a1:Nat):List Value:=[(sN 0 0 a1 (Nat.add big 8))]
def qpx_ (a0:List R8)(a1:Nat):AH:=⟨sB [(0,(some (.cells (layT (rows rw_iiiiiiLu a0)) 35)))],1,1⟩
def qmh_ (a0:List R8)(a1:Nat)(r:(List Int) ⊕ (Unit)):Value:=match r with
 | .inl o0=>(slN o0 2)
 | .inr _=>(Value.slice none 0 0)
def qmi_ (a0:List R8)(a1:Nat)(r:(List Int) ⊕ (Unit)):AH:=match r with
 | .inl o0=>⟨sB [(0,(some (.cells (layT (rows rw_iiiiiiLu a0)) 35))),(1,(some (.marks false))),(2,(nblk o0 3))],3,0⟩
 | .inr _=>⟨sB [(0,(some (.cells (layT (rows rw_iiiiiiLu a0)) 35)))],1,1⟩
abbrev G_treeLeavesq1 (a0:List R8)(a1:Nat)(r:(List Int) ⊕ (Unit)):Prop:=Gv P (.func 36) (qpw_ a0 a1) (qpx_ a0 a1) (qmh_ a0 a1 r) (qmi_ a0 a1 r)
abbrev qmj_ (a0:List R8)(a1:Nat)(r:(List Int) ⊕ (Unit))(ins outs:BL):CallA:=⟨1,ins,qmh_ a0 a1 r,qmi_ a0 a1 r,outs⟩
def qf1_ (n:Nat)(a0:List R8)(a1:Nat):Option ((List Int) ⊕ (Unit)):=
 (qff_ n a0 a1).bind fun c1_=>
 if c1_=0 then
  (qjx_ n a0 a1 0).bind fun _=>
  (qin_ n a0 a1 a1 0).bind fun c4_=>
  match c4_ with
  | []=>
   some (.inl ([]:List Int))
  | c4_a::c4_t=>
   some (.inl (c4_a::c4_t))
 else
  some (.inr ())
theorem qjc_ (n:Nat)(a0:List R8)(a1:Nat)(r:(List Int) ⊕ (Unit))(h:qf1_ n a0 a1=some r):Gv P (.func 36) (qpw_ a0 a1) (qpx_ a0 a1) (qmh_ a0 a1 r) (qmi_ a0 a1 r):=by
 unfold qf1_ at h
 obtain⟨c1_,hc1,h⟩:=oB h
 have k0:=fun {A L l} (k:PL A L l)=>yy 6 (.call (qnu_ a0 a1 c1_ [(0,0,true)] [])) <|
  ww (qki_ n a0 a1 c1_ hc1) <|
  ww (qa_ rwf_iiiiiiLu a0 35) <|
  k
 by_cases hc2:c1_=0
 ·rw[if_pos hc2] at h
  obtain⟨_,hc3,h⟩:=oB h
  obtain⟨c4_,hc4,h⟩:=oB h
  have k3:=fun {A L l} (k:PL A L l)=>zz 7 (xnF hc2) <|
   yy 14 (.call (qwd_ a0 a1 0 () [(0,0,true)] [(0,0,true),(3,1,false),(4,2,false)])) <|
   ww (qrn_ n a0 a1 0 () hc3) <|
   ww (qa_ rwf_iiiiiiLu a0 35) <|
   ww (qa_ rwf_iiiiiiLu a0 35) <|
   k
  cases c4_ with
  | nil=>
   dsimp only at h
   obtain rfl:=oI h
   exact runF2 hm ⟨[2],[(0,0,true),(1,5,false)],3,0,[],false,[],[],[]⟩ (k0 <|
    k3 <|
    yy 16 (.rng (qos_ a0 a1 a1 0 ([]:List Int) [(0,6,false),(1,5,false),(2,1,false),(3,0,true),(4,2,false),(5,3,false),(6,4,false)] [(6,0,false),(5,1,false),(1,2,false),(0,3,true),(2,4,false),(3,5,false),(4,6,false)]) [1,3,9]) <|
    ww (ql0_ n a0 a1 a1 0 ([]:List Int) hc4) <|
    ww (qa_ rwf_iiiiiiLu a0 35) <|
    ww (qa_ rwf_iiiiiiLu a0 35) <|
    ww (qa_ rwf_iiiiiiLu a0 35) <|
    ee) (by kernel_rfl)
  | cons c4_a c4_t=>
   dsimp only at h
   obtain rfl:=oI h
   exact runF2 hm ⟨[2],[(0,0,true),(1,5,false),(2,7,true)],3,0,[],false,[],[],[]⟩ (k0 <|
    k3 <|
    yy 16 (.rng (qos_ a0 a1 a1 0 (c4_a::c4_t) [(0,6,false),(1,5,false),(2,1,false),(3,0,true),(4,2,false),(5,3,false),(6,4,false)] [(6,0,false),(5,1,false),(1,2,false),(0,3,true),(2,4,false),(3,5,false),(4,6,false),(7,7,true)]) [1,3,9]) <|
    ww (ql0_ n a0 a1 a1 0 (c4_a::c4_t) hc4) <|
    ww (qa_ rwf_iiiiiiLu a0 35) <|
    ww (qa_ rwf_iiiiiiLu a0 35) <|
    ww (qc_ (c4_a::c4_t) 3) <|
    ww (qa_ rwf_iiiiiiLu a0 35) <|
    ww (qc_ (c4_a::c4_t) 3) <|
    ee) (by kernel_rfl)
 ·rw[if_neg hc2] at h
  obtain rfl:=oI h
  exact runF2 hm ⟨[2],[(0,0,true)],1,1,[],false,[],[],[]⟩ (k0 <|
   zz 7 (xnT hc2) <|
   ww (qa_ rwf_iiiiiiLu a0 35) <|
   ee) (by kernel_rfl)

def qot_ (a0:Int)(a1:List R8)(a2:Nat):List Value:=[(i6 a0),(pN 0 0)]
def qou_ (a0:Int)(a1:List R8)(a2:Nat):AH:=⟨sB [(0,(some (.cells (layT [(sN 1 0 a2 (Nat.add big 8))]) 22))),(1,(some (.cells (layT (rows rw_iiiiiiLu a1)) 35)))],2,2⟩
def qlf_ (a0:Int)(a1:List R8)(a2:Nat)(r:Bool):Value:=match r with
 | o0=>(bO o0)
def qlg_ (a0:Int)(a1:List R8)(a2:Nat)(r:Bool):AH:=match r with
 | o0=>⟨sB [],2,2⟩
abbrev G_marksReach1q1 (a0:Int)(a1:List R8)(a2:Nat)(r:Bool):Prop:=Gv P (.func 37) (qot_ a0 a1 a2) (qou_ a0 a1 a2) (qlf_ a0 a1 a2 r) (qlg_ a0 a1 a2 r)
abbrev qio_ (a0:Int)(a1:List R8)(a2:Nat)(r:Bool)(ins outs:BL):CallA:=⟨2,ins,qlf_ a0 a1 a2 r,qlg_ a0 a1 a2 r,outs⟩
def qdl_ (n:Nat)(a0:Int)(a1:List R8)(a2:Nat):Option (Bool):=
 if 0≤a0∧a0<((a2:Nat):Int) then
  if (a0).toNat<(a1).length then
   ((some ((a1).getD (a0).toNat (0,0,0,0,0,0,nl0,0)))).bind fun c3_=>
   if (c3_.2.1)=4 then
    some false
   else
    some true
  else none
 else none
theorem qf2_ (n:Nat)(a0:Int)(a1:List R8)(a2:Nat)(r:Bool)(h:qdl_ n a0 a1 a2=some r):Gv P (.func 37) (qot_ a0 a1 a2) (qou_ a0 a1 a2) (qlf_ a0 a1 a2 r) (qlg_ a0 a1 a2 r):=by
 unfold qdl_ at h
 obtain⟨hc1,h⟩:=gd h
 obtain⟨hc2,h⟩:=gd h
 obtain⟨c3_,hc3,h⟩:=oB h
 have k0:=fun {A L l} (k:PL A L l)=>zz 5 (xk13 1 U8 hc1) <|
  zz 7 (ok21 hc3 (hc2)) <|
  k
 by_cases hc4:(c3_.2.1)=4
 ·rw[if_pos hc4] at h
  obtain rfl:=oI h
  exact runF2 hm ⟨[3],[],2,2,[],false,[],[],[]⟩ (k0 <|
   zz 8 (xnF hc4) <|
   ee) (by kernel_rfl)
 ·rw[if_neg hc4] at h
  obtain rfl:=oI h
  exact runF2 hm ⟨[3],[],2,2,[],false,[],[],[]⟩ (k0 <|
   zz 8 (xnT hc4) <|
   ee) (by kernel_rfl)

def qpy_ (a0:List R8)(a1:Nat)(a2:Int):List Value:=[(sN 0 0 a1 (Nat.add big 8)),(i6 a2)]
def qpz_ (a0:List R8)(a1:Nat)(a2:Int):AH:=⟨sB [(0,(some (.cells (layT (rows rw_iiiiiiLu a0)) 35)))],1,1⟩
def qmk_ (a0:List R8)(a1:Nat)(a2:Int)(r:List Int):Value:=match r with
 | o0=>(sN 1 0 ((((a1:Nat):Int)).toNat) ((((a1:Nat):Int)).toNat))
def qml_ (a0:List R8)(a1:Nat)(a2:Int)(r:List Int):AH:=match r with
 | o0=>⟨sB [(0,(some (.cells (layT (rows rw_iiiiiiLu a0)) 35))),(1,(some (.cells (layT (iv o0)) 3)))],2,0⟩
abbrev G_marksReachq1 (a0:List R8)(a1:Nat)(a2:Int)(r:List Int):Prop:=Gv P (.func 18) (qpy_ a0 a1 a2) (qpz_ a0 a1 a2) (qmk_ a0 a1 a2 r) (qml_ a0 a1 a2 r)
abbrev qwe_ (a0:List R8)(a1:Nat)(a2:Int)(r:List Int)(ins outs:BL):CallA:=⟨1,ins,qmk_ a0 a1 a2 r,qml_ a0 a1 a2 r,outs⟩
def qfm_ (x0:List R8)(x1:Int)(x2:Nat)(x3:List Int)(x4:Nat)(x5:List Int)(x11 x12 x13:Int)(st:List Int×Nat×Nat×Int×Int):XSt:=match st with
 | (x6,x7,x8,x9,x10)=>(sT 86 [(1,(i6 x1)),(2,(pN 1 0)),(5,(sN 2 0 x4 x4)),(6,(sN 3 0 (x5).length (Nat.add big 1))),(7,(Value.func (.func 37) #[] #[(pN 1 0)])),(8,(slP x6 4 x7 1 (x8*1))),(9,(i6 x9)),(10,(i6 x10)),(12,(i6 x11)),(23,(sN 3 0 (x5).length (Nat.add big 1))),(24,(i6 x12)),(25,(i6 x13))],[],⟨sB [(0,(some (.cells (layT (rows rw_iiiiiiLu x0)) 35))),(1,(some (.cells (layT [(sN 0 0 x2 (Nat.add big 8))]) 22))),(2,(some (.cells (layT (iv x3)) 3))),(3,(some (.cells (layT (iv x5)) 3))),(4,(nblk x6 3))],5,0⟩)
def qd_ (x0:List R8)(x1:Int)(x2:Nat)(x3:List Int)(x4:Nat)(x5:List Int)(x11 x12 x13:Int)(r:List Int×Nat×Nat×Int×Int):Ex×XSt:=match r with
 | (z0,z1,z2,z3,z4)=>(.exit 2,(sT 86 [(1,(i6 x1)),(2,(pN 1 0)),(5,(sN 2 0 x4 x4)),(6,(sN 3 0 (x5).length (Nat.add big 1))),(7,(Value.func (.func 37) #[] #[(pN 1 0)])),(8,(slP z0 4 z1 1 (z2*1))),(9,(i6 z3)),(10,(i6 z4)),(12,(i6 x11)),(23,(sN 3 0 (x5).length (Nat.add big 1))),(24,(i6 x12)),(25,(i6 x13))],[],⟨sB [(0,(some (.cells (layT (rows rw_iiiiiiLu x0)) 35))),(1,(some (.cells (layT [(sN 0 0 x2 (Nat.add big 8))]) 22))),(2,(some (.cells (layT (iv x3)) 3))),(3,(some (.cells (layT (iv x5)) 3))),(4,(nblk z0 3))],5,0⟩))
abbrev Q_marksReachq1_2 (rnd:Option Nat)(x0:List R8)(x1:Int)(x2:Nat)(x3:List Int)(x4:Nat)(x5:List Int)(x11 x12 x13:Int)(st:List Int×Nat×Nat×Int×Int)(c:Ex×XSt):Prop:=CG P rnd (fnN P 18) 1 (qo_ P 18 [false,false,false,true,true,false,false,true,true,false,false,true,false,true,true,true,true,true,true,true]) (qfm_ x0 x1 x2 x3 x4 x5 x11 x12 x13 st) c
def qec_ (n:Nat)(x0:List R8)(x1:Int)(x2:Nat)(x3:List Int)(x4:Nat)(x5:List Int)(x11 x12 x13:Int)(st:List Int×Nat×Nat×Int×Int):Option ((List Int×Nat×Nat×Int×Int) ⊕ (List Int×Nat×Nat×Int×Int)):=match st with
 | (x6,x7,x8,x9,x10)=>
  match x6 with
  | []=>
   if x10<(((x5).length:Nat):Int) then
    if (0:Int)<x1 then
     if 0≤x10∧x10<(((x5).length:Nat):Int) then
      ((some ((x5).getD (x10).toNat 0))).bind fun y4_=>
      if 0≤y4_∧y4_<((x2:Nat):Int) then
       if (y4_).toNat<(x0).length then
        ((some ((x0).getD (y4_).toNat (0,0,0,0,0,0,nl0,0)))).bind fun y7_=>
        (qdl_ n y4_ x0 x2).bind fun y8_=>
        if y8_=true then
         some (.inl ([(y7_.2.2.2.2.2.1)],1,0,(maxB x9 (y7_.2.2.2.2.2.1)),(w64 (x10+1))))
        else
         some (.inl (([]:List Int),0,0,x9,(w64 (x10+1))))
       else none
      else none
     else none
    else
     some (.inr (([]:List Int),0,0,x9,x10))
   else
    some (.inr (([]:List Int),0,0,x9,x10))
  | x6a::x6t=>
   if x10<(((x5).length:Nat):Int) then
    if ((x7:Nat):Int)<x1 then
     if 0≤x10∧x10<(((x5).length:Nat):Int) then
      ((some ((x5).getD (x10).toNat 0))).bind fun y4_=>
      if 0≤y4_∧y4_<((x2:Nat):Int) then
       if (y4_).toNat<(x0).length then
        ((some ((x0).getD (y4_).toNat (0,0,0,0,0,0,nl0,0)))).bind fun y7_=>
        (qdl_ n y4_ x0 x2).bind fun y8_=>
        if y8_=true then
         if x8+x7≤((x6a::x6t)).length then
          if (x7+1)*8≤140737488355328 then
           some (.inl (((List.take x7 (List.drop x8 (x6a::x6t))) ++ [(y7_.2.2.2.2.2.1)]),((((List.take x7 (List.drop x8 (x6a::x6t))) ++ [(y7_.2.2.2.2.2.1)])).length),0,(maxB x9 (y7_.2.2.2.2.2.1)),(w64 (x10+1))))
          else none
         else none
        else
         some (.inl ((x6a::x6t),x7,x8,x9,(w64 (x10+1))))
       else none
      else none
     else none
    else
     some (.inr ((x6a::x6t),x7,x8,x9,x10))
   else
    some (.inr ((x6a::x6t),x7,x8,x9,x10))
def qc1_ (n:Nat)(x0:List R8)(x1:Int)(x2:Nat)(x3:List Int)(x4:Nat)(x5:List Int)(x11 x12 x13:Int)(st:List Int×Nat×Nat×Int×Int):Option (List Int×Nat×Nat×Int×Int):=iterM (qec_ n x0 x1 x2 x3 x4 x5 x11 x12 x13) n st
theorem qnw_ (n:Nat){rnd:Option Nat}(x0:List R8)(x1:Int)(x2:Nat)(x3:List Int)(x4:Nat)(x5:List Int)(x11 x12 x13:Int)(st:List Int×Nat×Nat×Int×Int)(o:(List Int×Nat×Nat×Int×Int) ⊕ (List Int×Nat×Nat×Int×Int))(h:qec_ n x0 x1 x2 x3 x4 x5 x11 x12 x13 st=some o):CG P rnd (fnN P 18) 1 (qo_ P 18 [false,false,false,true,true,false,false,true,true,false,false,true,false,true,true,true,true,true,true,true]) (qfm_ x0 x1 x2 x3 x4 x5 x11 x12 x13 st) (Sum.elim (fun s=>(.normal,qfm_ x0 x1 x2 x3 x4 x5 x11 x12 x13 s)) (fun r=>qd_ x0 x1 x2 x3 x4 x5 x11 x12 x13 r) o):=by
 obtain⟨x6,x7,x8,x9,x10⟩:=st
 unfold qec_ at h
 dsimp only at h
 cases x6 with
 | nil=>
  dsimp only at h
  by_cases hy1:x10<(((x5).length:Nat):Int)
  ·rw[if_pos hy1] at h
   have k0:=fun {A L l} (k:PL A L l)=>zz 5 (xdT hy1) <|
    k
   by_cases hy2:(0:Int)<x1
   ·rw[if_pos hy2] at h
    obtain⟨hy3,h⟩:=gd h
    obtain⟨y4_,hy4,h⟩:=oB h
    obtain⟨hy5,h⟩:=gd h
    obtain⟨hy6,h⟩:=gd h
    obtain⟨y7_,hy7,h⟩:=oB h
    obtain⟨y8_,hy8,h⟩:=oB h
    have k1:=fun {A L l} (k:PL A L l)=>zz 10 (xdT hy2) <|
     zz 19 (xk19 3 U1 hy3) <|
     zz 20 (xivN hy4 (qex_ hy3)) <|
     zz 21 (xk13 0 U8 hy5) <|
     zz 23 (ok20 hy7 (hy6)) <|
     zz 29 (xk19 3 U1 hy3) <|
     zz 30 (xivN hy4 (qex_ hy3)) <|
     yy 31 (.call (qio_ y4_ x0 x2 y8_ [(0,1,false),(1,0,true)] [])) <|
     ww (qf2_ n y4_ x0 x2 y8_ hy8) <|
     ww (qa_ rwf_iiiiiiLu x0 35) <|
     k
    by_cases hy9:y8_=true
    ·rw[if_pos hy9] at h
     obtain rfl:=oI h
     exact runC2 hm ⟨[1,2,5,6,7,8,9,10,12,23,24,25],[(0,0,true),(1,1,false),(2,2,true),(3,3,true),(4,6,false)],5,0,[],false,[],[],[]⟩ (k0 <|
      k1 <|
      zz 32 (xbT hy9) <|
      ww (qa_ rwf_iiiiiiLu x0 35) <|
      ww (qc_ x3 3) <|
      ww (qc_ x5 3) <|
      ee) (by kernel_rfl)
    ·rw[if_neg hy9] at h
     obtain rfl:=oI h
     exact runC2 hm ⟨[1,2,5,6,7,8,9,10,12,23,24,25],[(0,0,true),(1,1,false),(2,2,true),(3,3,true)],5,0,[],false,[],[],[]⟩ (k0 <|
      k1 <|
      zz 32 (xbF hy9) <|
      ww (qa_ rwf_iiiiiiLu x0 35) <|
      ww (qc_ x3 3) <|
      ww (qc_ x5 3) <|
      ee) (by kernel_rfl)
   ·rw[if_neg hy2] at h
    obtain rfl:=oI h
    exact runC2 hm ⟨[1,2,5,6,7,8,9,10,12,23,24,25],[(0,0,true),(1,1,false),(2,2,true),(3,3,true)],5,0,[],false,[],[],[]⟩ (k0 <|
     zz 10 (xdF hy2) <|
     ww (qa_ rwf_iiiiiiLu x0 35) <|
     ww (qc_ x3 3) <|
     ww (qc_ x5 3) <|
     ee) (by kernel_rfl)
  ·rw[if_neg hy1] at h
   obtain rfl:=oI h
   exact runC2 hm ⟨[1,2,5,6,7,8,9,10,12,23,24,25],[(0,0,true),(1,1,false),(2,2,true),(3,3,true)],5,0,[],false,[],[],[]⟩ (zz 5 (xdF hy1) <|
    ww (qa_ rwf_iiiiiiLu x0 35) <|
    ww (qc_ x3 3) <|
    ww (qc_ x5 3) <|
    ee) (by kernel_rfl)
 | cons x6a x6t=>
  dsimp only at h
  by_cases hy1:x10<(((x5).length:Nat):Int)
  ·rw[if_pos hy1] at h
   have k0:=fun {A L l} (k:PL A L l)=>zz 5 (xdT hy1) <|
    k
   by_cases hy2:((x7:Nat):Int)<x1
   ·rw[if_pos hy2] at h
    obtain⟨hy3,h⟩:=gd h
    obtain⟨y4_,hy4,h⟩:=oB h
    obtain⟨hy5,h⟩:=gd h
    obtain⟨hy6,h⟩:=gd h
    obtain⟨y7_,hy7,h⟩:=oB h
    obtain⟨y8_,hy8,h⟩:=oB h
    have k1:=fun {A L l} (k:PL A L l)=>zz 10 (xdT hy2) <|
     zz 19 (xk19 3 U1 hy3) <|
     zz 20 (xivN hy4 (qex_ hy3)) <|
     zz 21 (xk13 0 U8 hy5) <|
     zz 23 (ok20 hy7 (hy6)) <|
     zz 29 (xk19 3 U1 hy3) <|
     zz 30 (xivN hy4 (qex_ hy3)) <|
     yy 31 (.call (qio_ y4_ x0 x2 y8_ [(0,1,false),(1,0,true)] [])) <|
     ww (qf2_ n y4_ x0 x2 y8_ hy8) <|
     ww (qa_ rwf_iiiiiiLu x0 35) <|
     k
    by_cases hy9:y8_=true
    ·rw[if_pos hy9] at h
     obtain⟨hy10,h⟩:=gd h
     obtain⟨hy11,h⟩:=gd h
     obtain rfl:=oI h
     obtain⟨za,zt,hz⟩:∃ a t,((List.take x7 (List.drop x8 (x6a::x6t))) ++ [(y7_.2.2.2.2.2.1)])=a::t:=qr1_ (List.take x7 (List.drop x8 (x6a::x6t))) (y7_.2.2.2.2.2.1)
     rw[hz]
     try rw[hz] at k0
     try rw[hz] at k1
     exact runC2 hm ⟨[1,2,5,6,7,8,9,10,12,23,24,25],[(0,0,true),(1,1,false),(2,2,true),(3,3,true),(4,6,true)],5,0,[],false,[],[],[]⟩ (k0 <|
      k1 <|
      zz 32 (xbT hy9) <|
      yy 37 (.app ⟨none,iv (List.take x7 (List.drop x8 (x6a::x6t))),(iv (za::zt)),((za::zt)).length,false⟩) <|
      ww (p:=0<1) ((by decide)) <|
      ww (p:=rdT (layT (iv (x6a::x6t))) (Nat.mul x7 1) (x8*1)=some (iv (List.take x7 (List.drop x8 (x6a::x6t))))) (iv_rdSub _ x8 _ hy10) <|
      ww (p:=fits (Nat.add x7 1) 8=true) (qk3_ hy11 (by have:=hy11; show (_:Nat)+_≤_; omega)) <|
      ww (p:=qbc_ [(i6 (y7_.2.2.2.2.2.1))]=true) (rfl) <|
      ww (p:=qbc_ (iv (List.take x7 (List.drop x8 (x6a::x6t))))=true) (qv5_ _) <|
      ww (p:=iv (List.take x7 (List.drop x8 (x6a::x6t))) ++ [(i6 (y7_.2.2.2.2.2.1))]=(iv (za::zt))) (by rw[←hz]; exact (by simp[iv])) <|
      ww (p:=Nat.add x7 1=((za::zt)).length) (by rw[←hz]; exact (qv6_ (by have:=hy10; rw[List.length_drop]; omega) rfl)) <|
      ww (qa_ rwf_iiiiiiLu x0 35) <|
      ww (qc_ x3 3) <|
      ww (qc_ x5 3) <|
      ww (qc_ (za::zt) 3) <|
      ee) (by kernel_rfl)
    ·rw[if_neg hy9] at h
     obtain rfl:=oI h
     exact runC2 hm ⟨[1,2,5,6,7,8,9,10,12,23,24,25],[(0,0,true),(1,1,false),(2,2,true),(3,3,true),(4,4,true)],5,0,[],false,[],[],[]⟩ (k0 <|
      k1 <|
      zz 32 (xbF hy9) <|
      ww (qa_ rwf_iiiiiiLu x0 35) <|
      ww (qc_ x3 3) <|
      ww (qc_ x5 3) <|
      ww (qc_ (x6a::x6t) 3) <|
      ee) (by kernel_rfl)
   ·rw[if_neg hy2] at h
    obtain rfl:=oI h
    exact runC2 hm ⟨[1,2,5,6,7,8,9,10,12,23,24,25],[(0,0,true),(1,1,false),(2,2,true),(3,3,true),(4,4,true)],5,0,[],false,[],[],[]⟩ (k0 <|
     zz 10 (xdF hy2) <|
     ww (qa_ rwf_iiiiiiLu x0 35) <|
     ww (qc_ x3 3) <|
     ww (qc_ x5 3) <|
     ww (qc_ (x6a::x6t) 3) <|
     ee) (by kernel_rfl)
  ·rw[if_neg hy1] at h
   obtain rfl:=oI h
   exact runC2 hm ⟨[1,2,5,6,7,8,9,10,12,23,24,25],[(0,0,true),(1,1,false),(2,2,true),(3,3,true),(4,4,true)],5,0,[],false,[],[],[]⟩ (zz 5 (xdF hy1) <|
    ww (qa_ rwf_iiiiiiLu x0 35) <|
    ww (qc_ x3 3) <|
    ww (qc_ x5 3) <|
    ww (qc_ (x6a::x6t) 3) <|
    ee) (by kernel_rfl)
theorem q0_ (n:Nat){rnd:Option Nat}(x0:List R8)(x1:Int)(x2:Nat)(x3:List Int)(x4:Nat)(x5:List Int)(x11 x12 x13:Int)(st r:List Int×Nat×Nat×Int×Int)(h:qc1_ n x0 x1 x2 x3 x4 x5 x11 x12 x13 st=some r):CG P rnd (fnN P 18) 1 (qo_ P 18 [false,false,true,true,false,false,true,true,false,false,true,false,true,true,true,true,true,true,true]) (qfm_ x0 x1 x2 x3 x4 x5 x11 x12 x13 st) (qd_ x0 x1 x2 x3 x4 x5 x11 x12 x13 r):=
 CG.iter (b:=qo_ P 18 [false,false,false,true,true,false,false,true,true,false,false,true,false,true,true,true,true,true,true,true]) (by kernel_rfl) (body:=qec_ n x0 x1 x2 x3 x4 x5 x11 x12 x13) (S:=qfm_ x0 x1 x2 x3 x4 x5 x11 x12 x13) (X:=qd_ x0 x1 x2 x3 x4 x5 x11 x12 x13)
  (fun s s' h=>qnw_ n x0 x1 x2 x3 x4 x5 x11 x12 x13 s (.inl s') h)
  (fun s r h=>qnw_ n x0 x1 x2 x3 x4 x5 x11 x12 x13 s (.inr r) h)
  (fun r=>by intro hx; cases hx) h
def qfn_ (x0:List R8)(x1:Int)(x2 x4:Nat)(x11:Int)(st:List Int×List Int×List Int×Nat×Nat×Int×Int×Int):XSt:=match st with
 | (x3,x5,x6,x7,x8,x9,x10,x12)=>(sT 86 [(1,(i6 x1)),(2,(pN 1 0)),(5,(sN 2 0 x4 x4)),(6,(slN x5 3)),(7,(Value.func (.func 37) #[] #[(pN 1 0)])),(8,(slP x6 4 x7 1 (x8*1))),(9,(i6 x9)),(10,(i6 x10)),(23,(slN x5 3)),(24,(i6 x11)),(25,(i6 x12))],[],⟨sB [(0,(some (.cells (layT (rows rw_iiiiiiLu x0)) 35))),(1,(some (.cells (layT [(sN 0 0 x2 (Nat.add big 8))]) 22))),(2,(some (.cells (layT (iv x3)) 3))),(3,(nblk x5 3)),(4,(nblk x6 3))],5,0⟩)
def qch_ (x0:List R8)(x1:Int)(x2 x4:Nat)(x11:Int)(r:List Int):Ex×XSt:=match r with
 | z0=>(.exit 0,(sT 86 [(5,(sN 1 0 x4 x4))],[],⟨sB [(0,(some (.cells (layT (rows rw_iiiiiiLu x0)) 35))),(1,(some (.cells (layT (iv z0)) 3)))],2,0⟩))
abbrev Q_marksReachq1_1 (rnd:Option Nat)(x0:List R8)(x1:Int)(x2 x4:Nat)(x11:Int)(st:List Int×List Int×List Int×Nat×Nat×Int×Int×Int)(c:Ex×XSt):Prop:=CG P rnd (fnN P 18) 1 (qo_ P 18 [false,false,true,false,true,true,true,true,true,true,true]) (qfn_ x0 x1 x2 x4 x11 st) c
def qci_ (n:Nat)(x0:List R8)(x1:Int)(x2 x4:Nat)(x11:Int)(st:List Int×List Int×List Int×Nat×Nat×Int×Int×Int):Option ((List Int×List Int×List Int×Nat×Nat×Int×Int×Int) ⊕ (List Int)):=match st with
 | (x3,x5,x6,x7,x8,x9,x10,x12)=>
  match x5 with
  | []=>
   match x6 with
   | []=>
    if x12<x11 then
     none
    else
     some (.inr x3)
   | x6a::x6t=>
    if x12<x11 then
     none
    else
     some (.inr x3)
  | x5a::x5t=>
   match x6 with
   | []=>
    if x12<x11 then
     if 0≤x12∧x12<((((x5a::x5t)).length:Nat):Int) then
      ((some (((x5a::x5t)).getD (x12).toNat 0))).bind fun y3_=>
      if x10≤x12 then
       (qc1_ n x0 x1 x2 x3 x4 (x5a::x5t) y3_ x11 x12 (([]:List Int),0,0,x9,(w64 (x12+1)))).bind fun t=>match t with
       | (y5_0,y5_1,y5_2,y5_3,y5_4)=>
        match y5_0 with
        | []=>
         if 0≤y3_∧y3_<((x2:Nat):Int) then
          if (y3_).toNat<(x0).length then
           ((some ((x0).getD (y3_).toNat (0,0,0,0,0,0,nl0,0)))).bind fun y8_=>
           if 0≤y3_∧y3_<((x4:Nat):Int) then
            if (y3_).toNat<(x3).length then
             some (.inl (((x3).set (y3_).toNat (maxB y5_3 (y8_.2.2.2.2.2.1))),(x5a::x5t),([]:List Int),0,0,(maxB y5_3 (y8_.2.2.2.2.2.1)),y5_4,(w64 (x12+1))))
            else none
           else none
          else none
         else none
        | y5_0a::y5_0t=>
         if 0≤y3_∧y3_<((x2:Nat):Int) then
          if (y3_).toNat<(x0).length then
           ((some ((x0).getD (y3_).toNat (0,0,0,0,0,0,nl0,0)))).bind fun y8_=>
           if 0≤y3_∧y3_<((x4:Nat):Int) then
            if (y3_).toNat<(x3).length then
             some (.inl (((x3).set (y3_).toNat (maxB y5_3 (y8_.2.2.2.2.2.1))),(x5a::x5t),(y5_0a::y5_0t),y5_1,y5_2,(maxB y5_3 (y8_.2.2.2.2.2.1)),y5_4,(w64 (x12+1))))
            else none
           else none
          else none
         else none
      else
       (qdl_ n y3_ x0 x2).bind fun y5_=>
       if y5_=true then
        none
       else
        (qc1_ n x0 x1 x2 x3 x4 (x5a::x5t) y3_ x11 x12 (([]:List Int),0,0,x9,x10)).bind fun t=>match t with
        | (y7_0,y7_1,y7_2,y7_3,y7_4)=>
         match y7_0 with
         | []=>
          if 0≤y3_∧y3_<((x2:Nat):Int) then
           if (y3_).toNat<(x0).length then
            ((some ((x0).getD (y3_).toNat (0,0,0,0,0,0,nl0,0)))).bind fun y10_=>
            if 0≤y3_∧y3_<((x4:Nat):Int) then
             if (y3_).toNat<(x3).length then
              some (.inl (((x3).set (y3_).toNat (maxB y7_3 (y10_.2.2.2.2.2.1))),(x5a::x5t),([]:List Int),0,0,(maxB y7_3 (y10_.2.2.2.2.2.1)),y7_4,(w64 (x12+1))))
             else none
            else none
           else none
          else none
         | y7_0a::y7_0t=>
          if 0≤y3_∧y3_<((x2:Nat):Int) then
           if (y3_).toNat<(x0).length then
            ((some ((x0).getD (y3_).toNat (0,0,0,0,0,0,nl0,0)))).bind fun y10_=>
            if 0≤y3_∧y3_<((x4:Nat):Int) then
             if (y3_).toNat<(x3).length then
              some (.inl (((x3).set (y3_).toNat (maxB y7_3 (y10_.2.2.2.2.2.1))),(x5a::x5t),(y7_0a::y7_0t),y7_1,y7_2,(maxB y7_3 (y10_.2.2.2.2.2.1)),y7_4,(w64 (x12+1))))
             else none
            else none
           else none
          else none
     else none
    else
     some (.inr x3)
   | x6a::x6t=>
    if x12<x11 then
     if 0≤x12∧x12<((((x5a::x5t)).length:Nat):Int) then
      ((some (((x5a::x5t)).getD (x12).toNat 0))).bind fun y3_=>
      if x10≤x12 then
       (qc1_ n x0 x1 x2 x3 x4 (x5a::x5t) y3_ x11 x12 ((x6a::x6t),x7,x8,x9,(w64 (x12+1)))).bind fun t=>match t with
       | (y5_0,y5_1,y5_2,y5_3,y5_4)=>
        match y5_0 with
        | []=>
         if 0≤y3_∧y3_<((x2:Nat):Int) then
          if (y3_).toNat<(x0).length then
           ((some ((x0).getD (y3_).toNat (0,0,0,0,0,0,nl0,0)))).bind fun y8_=>
           if 0≤y3_∧y3_<((x4:Nat):Int) then
            if (y3_).toNat<(x3).length then
             some (.inl (((x3).set (y3_).toNat (maxB y5_3 (y8_.2.2.2.2.2.1))),(x5a::x5t),([]:List Int),0,0,(maxB y5_3 (y8_.2.2.2.2.2.1)),y5_4,(w64 (x12+1))))
            else none
           else none
          else none
         else none
        | y5_0a::y5_0t=>
         if 0≤y3_∧y3_<((x2:Nat):Int) then
          if (y3_).toNat<(x0).length then
           ((some ((x0).getD (y3_).toNat (0,0,0,0,0,0,nl0,0)))).bind fun y8_=>
           if 0≤y3_∧y3_<((x4:Nat):Int) then
            if (y3_).toNat<(x3).length then
             some (.inl (((x3).set (y3_).toNat (maxB y5_3 (y8_.2.2.2.2.2.1))),(x5a::x5t),(y5_0a::y5_0t),y5_1,y5_2,(maxB y5_3 (y8_.2.2.2.2.2.1)),y5_4,(w64 (x12+1))))
            else none
           else none
          else none
         else none
      else
       (qdl_ n y3_ x0 x2).bind fun y5_=>
       if y5_=true then
        if 0≤(1:Int)∧(1:Int)≤((x7:Nat):Int) then
         (qc1_ n x0 x1 x2 x3 x4 (x5a::x5t) y3_ x11 x12 ((x6a::x6t),(x7-((1:Int)).toNat),(x8+((1:Int)).toNat),x9,x10)).bind fun t=>match t with
         | (y8_0,y8_1,y8_2,y8_3,y8_4)=>
          match y8_0 with
          | []=>
           if 0≤y3_∧y3_<((x2:Nat):Int) then
            if (y3_).toNat<(x0).length then
             ((some ((x0).getD (y3_).toNat (0,0,0,0,0,0,nl0,0)))).bind fun y11_=>
             if 0≤y3_∧y3_<((x4:Nat):Int) then
              if (y3_).toNat<(x3).length then
               some (.inl (((x3).set (y3_).toNat (maxB y8_3 (y11_.2.2.2.2.2.1))),(x5a::x5t),([]:List Int),0,0,(maxB y8_3 (y11_.2.2.2.2.2.1)),y8_4,(w64 (x12+1))))
              else none
             else none
            else none
           else none
          | y8_0a::y8_0t=>
           if 0≤y3_∧y3_<((x2:Nat):Int) then
            if (y3_).toNat<(x0).length then
             ((some ((x0).getD (y3_).toNat (0,0,0,0,0,0,nl0,0)))).bind fun y11_=>
             if 0≤y3_∧y3_<((x4:Nat):Int) then
              if (y3_).toNat<(x3).length then
               some (.inl (((x3).set (y3_).toNat (maxB y8_3 (y11_.2.2.2.2.2.1))),(x5a::x5t),(y8_0a::y8_0t),y8_1,y8_2,(maxB y8_3 (y11_.2.2.2.2.2.1)),y8_4,(w64 (x12+1))))
              else none
             else none
            else none
           else none
        else none
       else
        (qc1_ n x0 x1 x2 x3 x4 (x5a::x5t) y3_ x11 x12 ((x6a::x6t),x7,x8,x9,x10)).bind fun t=>match t with
        | (y7_0,y7_1,y7_2,y7_3,y7_4)=>
         match y7_0 with
         | []=>
          if 0≤y3_∧y3_<((x2:Nat):Int) then
           if (y3_).toNat<(x0).length then
            ((some ((x0).getD (y3_).toNat (0,0,0,0,0,0,nl0,0)))).bind fun y10_=>
            if 0≤y3_∧y3_<((x4:Nat):Int) then
             if (y3_).toNat<(x3).length then
              some (.inl (((x3).set (y3_).toNat (maxB y7_3 (y10_.2.2.2.2.2.1))),(x5a::x5t),([]:List Int),0,0,(maxB y7_3 (y10_.2.2.2.2.2.1)),y7_4,(w64 (x12+1))))
             else none
            else none
           else none
          else none
         | y7_0a::y7_0t=>
          if 0≤y3_∧y3_<((x2:Nat):Int) then
           if (y3_).toNat<(x0).length then
            ((some ((x0).getD (y3_).toNat (0,0,0,0,0,0,nl0,0)))).bind fun y10_=>
            if 0≤y3_∧y3_<((x4:Nat):Int) then
             if (y3_).toNat<(x3).length then
              some (.inl (((x3).set (y3_).toNat (maxB y7_3 (y10_.2.2.2.2.2.1))),(x5a::x5t),(y7_0a::y7_0t),y7_1,y7_2,(maxB y7_3 (y10_.2.2.2.2.2.1)),y7_4,(w64 (x12+1))))
             else none
            else none
           else none
          else none
     else none
    else
     some (.inr x3)
def qed_ (n:Nat)(x0:List R8)(x1:Int)(x2 x4:Nat)(x11:Int)(st:List Int×List Int×List Int×Nat×Nat×Int×Int×Int):Option (List Int):=iterM (qci_ n x0 x1 x2 x4 x11) n st
theorem qnx_ (n:Nat){rnd:Option Nat}(x0:List R8)(x1:Int)(x2 x4:Nat)(x11:Int)(st:List Int×List Int×List Int×Nat×Nat×Int×Int×Int)(o:(List Int×List Int×List Int×Nat×Nat×Int×Int×Int) ⊕ (List Int))(h:qci_ n x0 x1 x2 x4 x11 st=some o):CG P rnd (fnN P 18) 1 (qo_ P 18 [false,false,true,false,true,true,true,true,true,true,true]) (qfn_ x0 x1 x2 x4 x11 st) (Sum.elim (fun s=>(.normal,qfn_ x0 x1 x2 x4 x11 s)) (fun r=>qch_ x0 x1 x2 x4 x11 r) o):=by
 obtain⟨x3,x5,x6,x7,x8,x9,x10,x12⟩:=st
 unfold qci_ at h
 dsimp only at h
 cases x5 with
 | nil=>
  dsimp only at h
  cases x6 with
  | nil=>
   dsimp only at h
   by_cases hy1:x12<x11
   ·rw[if_pos hy1] at h
    cases h
   ·rw[if_neg hy1] at h
    obtain rfl:=oI h
    exact runC2 hm ⟨[5],[(0,0,true),(1,2,true)],2,0,[],false,[],[],[]⟩ (zz 1 (xdF hy1) <|
     ww (qa_ rwf_iiiiiiLu x0 35) <|
     ww (qc_ x3 3) <|
     ee) (by kernel_rfl)
  | cons x6a x6t=>
   dsimp only at h
   by_cases hy1:x12<x11
   ·rw[if_pos hy1] at h
    cases h
   ·rw[if_neg hy1] at h
    obtain rfl:=oI h
    exact runC2 hm ⟨[5],[(0,0,true),(1,2,true)],2,0,[],false,[],[],[]⟩ (zz 1 (xdF hy1) <|
     ww (qa_ rwf_iiiiiiLu x0 35) <|
     ww (qc_ x3 3) <|
     ee) (by kernel_rfl)
 | cons x5a x5t=>
  dsimp only at h
  cases x6 with
  | nil=>
   dsimp only at h
   by_cases hy1:x12<x11
   ·rw[if_pos hy1] at h
    obtain⟨hy2,h⟩:=gd h
    obtain⟨y3_,hy3,h⟩:=oB h
    have k0:=fun {A L l} (k:PL A L l)=>zz 1 (xdT hy1) <|
     zz 8 (xk19 3 U1 hy2) <|
     zz 9 (xivN hy3 (qex_ hy2)) <|
     k
    by_cases hy4:x10≤x12
    ·rw[if_pos hy4] at h
     obtain⟨⟨y5_0,y5_1,y5_2,y5_3,y5_4⟩,hy5,h⟩:=oB h
     dsimp only at h
     have k3:=fun {A L l} (k:PL A L l)=>zz 16 (xdT hy4) <|
      k
     cases y5_0 with
     | nil=>
      dsimp only at h
      obtain⟨hy6,h⟩:=gd h
      obtain⟨hy7,h⟩:=gd h
      obtain⟨y8_,hy8,h⟩:=oB h
      obtain⟨hy9,h⟩:=gd h
      obtain⟨hy10,h⟩:=gd h
      obtain rfl:=oI h
      exact runC2 hm ⟨[1,2,5,6,7,8,9,10,23,24,25],[(0,0,true),(1,1,false),(2,2,true),(3,3,true)],5,0,[],false,[],[],[]⟩ (k0 <|
       k3 <|
       ww (q0_ n (rnd:=rnd) x0 x1 x2 x3 x4 (x5a::x5t) y3_ x11 x12 (([]:List Int),0,0,x9,(w64 (x12+1))) (([]:List Int),y5_1,y5_2,y5_3,y5_4) hy5) <|
       ww (qa_ rwf_iiiiiiLu x0 35) <|
       ww (qc_ x3 3) <|
       ww (qc_ (x5a::x5t) 3) <|
       ll 23 ⟨⟨[1,2,5,6,7,8,9,10,12,23,24,25],[(0,0,true),(1,1,false),(2,2,true),(3,3,true)],5,0,[],false,[],[],[]⟩,(qd_ x0 x1 x2 x3 x4 (x5a::x5t) y3_ x11 x12 (([]:List Int),y5_1,y5_2,y5_3,y5_4)).1,(qd_ x0 x1 x2 x3 x4 (x5a::x5t) y3_ x11 x12 (([]:List Int),y5_1,y5_2,y5_3,y5_4)).2⟩ <|
       zz 28 (xk13 0 U8 hy6) <|
       zz 30 (ok20 hy8 (hy7)) <|
       zz 36 (xk19 2 x4 hy9) <|
       z2 37 (stI ((maxB y5_3 (y8_.2.2.2.2.2.1))) hy10) <|
       ww (qa_ rwf_iiiiiiLu x0 35) <|
       ww (qc_ ((x3).set (y3_).toNat (maxB y5_3 (y8_.2.2.2.2.2.1))) 3) <|
       ww (qc_ (x5a::x5t) 3) <|
       ee) (by kernel_rfl)
     | cons y5_0a y5_0t=>
      dsimp only at h
      obtain⟨hy6,h⟩:=gd h
      obtain⟨hy7,h⟩:=gd h
      obtain⟨y8_,hy8,h⟩:=oB h
      obtain⟨hy9,h⟩:=gd h
      obtain⟨hy10,h⟩:=gd h
      obtain rfl:=oI h
      exact runC2 hm ⟨[1,2,5,6,7,8,9,10,23,24,25],[(0,0,true),(1,1,false),(2,2,true),(3,3,true),(4,4,true)],5,0,[],false,[],[],[]⟩ (k0 <|
       k3 <|
       ww (q0_ n (rnd:=rnd) x0 x1 x2 x3 x4 (x5a::x5t) y3_ x11 x12 (([]:List Int),0,0,x9,(w64 (x12+1))) ((y5_0a::y5_0t),y5_1,y5_2,y5_3,y5_4) hy5) <|
       ww (qa_ rwf_iiiiiiLu x0 35) <|
       ww (qc_ x3 3) <|
       ww (qc_ (x5a::x5t) 3) <|
       ll 23 ⟨⟨[1,2,5,6,7,8,9,10,12,23,24,25],[(0,0,true),(1,1,false),(2,2,true),(3,3,true)],5,0,[],false,[],[],[]⟩,(qd_ x0 x1 x2 x3 x4 (x5a::x5t) y3_ x11 x12 ((y5_0a::y5_0t),y5_1,y5_2,y5_3,y5_4)).1,(qd_ x0 x1 x2 x3 x4 (x5a::x5t) y3_ x11 x12 ((y5_0a::y5_0t),y5_1,y5_2,y5_3,y5_4)).2⟩ <|
       zz 28 (xk13 0 U8 hy6) <|
       zz 30 (ok20 hy8 (hy7)) <|
       zz 36 (xk19 2 x4 hy9) <|
       z2 37 (stI ((maxB y5_3 (y8_.2.2.2.2.2.1))) hy10) <|
       ww (qa_ rwf_iiiiiiLu x0 35) <|
       ww (qc_ ((x3).set (y3_).toNat (maxB y5_3 (y8_.2.2.2.2.2.1))) 3) <|
       ww (qc_ (x5a::x5t) 3) <|
       ww (qc_ (y5_0a::y5_0t) 3) <|
       ee) (by kernel_rfl)
    ·rw[if_neg hy4] at h
     obtain⟨y5_,hy5,h⟩:=oB h
     have k3:=fun {A L l} (k:PL A L l)=>zz 16 (xdF hy4) <|
      yy 21 (.call (qio_ y3_ x0 x2 y5_ [(0,1,false),(1,0,true)] [])) <|
      ww (qf2_ n y3_ x0 x2 y5_ hy5) <|
      ww (qa_ rwf_iiiiiiLu x0 35) <|
      k
     by_cases hy6:y5_=true
     ·rw[if_pos hy6] at h
      cases h
     ·rw[if_neg hy6] at h
      obtain⟨⟨y7_0,y7_1,y7_2,y7_3,y7_4⟩,hy7,h⟩:=oB h
      dsimp only at h
      have k7:=fun {A L l} (k:PL A L l)=>zz 22 (xbF hy6) <|
       k
      cases y7_0 with
      | nil=>
       dsimp only at h
       obtain⟨hy8,h⟩:=gd h
       obtain⟨hy9,h⟩:=gd h
       obtain⟨y10_,hy10,h⟩:=oB h
       obtain⟨hy11,h⟩:=gd h
       obtain⟨hy12,h⟩:=gd h
       obtain rfl:=oI h
       exact runC2 hm ⟨[1,2,5,6,7,8,9,10,23,24,25],[(0,0,true),(1,1,false),(2,2,true),(3,3,true)],5,0,[],false,[],[],[]⟩ (k0 <|
        k3 <|
        k7 <|
        ww (q0_ n (rnd:=rnd) x0 x1 x2 x3 x4 (x5a::x5t) y3_ x11 x12 (([]:List Int),0,0,x9,x10) (([]:List Int),y7_1,y7_2,y7_3,y7_4) hy7) <|
        ww (qa_ rwf_iiiiiiLu x0 35) <|
        ww (qc_ x3 3) <|
        ww (qc_ (x5a::x5t) 3) <|
        ll 25 ⟨⟨[1,2,5,6,7,8,9,10,12,23,24,25],[(0,0,true),(1,1,false),(2,2,true),(3,3,true)],5,0,[],false,[],[],[]⟩,(qd_ x0 x1 x2 x3 x4 (x5a::x5t) y3_ x11 x12 (([]:List Int),y7_1,y7_2,y7_3,y7_4)).1,(qd_ x0 x1 x2 x3 x4 (x5a::x5t) y3_ x11 x12 (([]:List Int),y7_1,y7_2,y7_3,y7_4)).2⟩ <|
        zz 30 (xk13 0 U8 hy8) <|
        zz 32 (ok20 hy10 (hy9)) <|
        zz 38 (xk19 2 x4 hy11) <|
        z2 39 (stI ((maxB y7_3 (y10_.2.2.2.2.2.1))) hy12) <|
        ww (qa_ rwf_iiiiiiLu x0 35) <|
        ww (qc_ ((x3).set (y3_).toNat (maxB y7_3 (y10_.2.2.2.2.2.1))) 3) <|
        ww (qc_ (x5a::x5t) 3) <|
        ee) (by kernel_rfl)
      | cons y7_0a y7_0t=>
       dsimp only at h
       obtain⟨hy8,h⟩:=gd h
       obtain⟨hy9,h⟩:=gd h
       obtain⟨y10_,hy10,h⟩:=oB h
       obtain⟨hy11,h⟩:=gd h
       obtain⟨hy12,h⟩:=gd h
       obtain rfl:=oI h
       exact runC2 hm ⟨[1,2,5,6,7,8,9,10,23,24,25],[(0,0,true),(1,1,false),(2,2,true),(3,3,true),(4,4,true)],5,0,[],false,[],[],[]⟩ (k0 <|
        k3 <|
        k7 <|
        ww (q0_ n (rnd:=rnd) x0 x1 x2 x3 x4 (x5a::x5t) y3_ x11 x12 (([]:List Int),0,0,x9,x10) ((y7_0a::y7_0t),y7_1,y7_2,y7_3,y7_4) hy7) <|
        ww (qa_ rwf_iiiiiiLu x0 35) <|
        ww (qc_ x3 3) <|
        ww (qc_ (x5a::x5t) 3) <|
        ll 25 ⟨⟨[1,2,5,6,7,8,9,10,12,23,24,25],[(0,0,true),(1,1,false),(2,2,true),(3,3,true)],5,0,[],false,[],[],[]⟩,(qd_ x0 x1 x2 x3 x4 (x5a::x5t) y3_ x11 x12 ((y7_0a::y7_0t),y7_1,y7_2,y7_3,y7_4)).1,(qd_ x0 x1 x2 x3 x4 (x5a::x5t) y3_ x11 x12 ((y7_0a::y7_0t),y7_1,y7_2,y7_3,y7_4)).2⟩ <|
        zz 30 (xk13 0 U8 hy8) <|
        zz 32 (ok20 hy10 (hy9)) <|
        zz 38 (xk19 2 x4 hy11) <|
        z2 39 (stI ((maxB y7_3 (y10_.2.2.2.2.2.1))) hy12) <|
        ww (qa_ rwf_iiiiiiLu x0 35) <|
        ww (qc_ ((x3).set (y3_).toNat (maxB y7_3 (y10_.2.2.2.2.2.1))) 3) <|
        ww (qc_ (x5a::x5t) 3) <|
        ww (qc_ (y7_0a::y7_0t) 3) <|
        ee) (by kernel_rfl)
   ·rw[if_neg hy1] at h
    obtain rfl:=oI h
    exact runC2 hm ⟨[5],[(0,0,true),(1,2,true)],2,0,[],false,[],[],[]⟩ (zz 1 (xdF hy1) <|
     ww (qa_ rwf_iiiiiiLu x0 35) <|
     ww (qc_ x3 3) <|
     ee) (by kernel_rfl)
  | cons x6a x6t=>
   dsimp only at h
   by_cases hy1:x12<x11
   ·rw[if_pos hy1] at h
    obtain⟨hy2,h⟩:=gd h
    obtain⟨y3_,hy3,h⟩:=oB h
    have k0:=fun {A L l} (k:PL A L l)=>zz 1 (xdT hy1) <|
     zz 8 (xk19 3 U1 hy2) <|
     zz 9 (xivN hy3 (qex_ hy2)) <|
     k
    by_cases hy4:x10≤x12
    ·rw[if_pos hy4] at h
     obtain⟨⟨y5_0,y5_1,y5_2,y5_3,y5_4⟩,hy5,h⟩:=oB h
     dsimp only at h
     have k3:=fun {A L l} (k:PL A L l)=>zz 16 (xdT hy4) <|
      k
     cases y5_0 with
     | nil=>
      dsimp only at h
      obtain⟨hy6,h⟩:=gd h
      obtain⟨hy7,h⟩:=gd h
      obtain⟨y8_,hy8,h⟩:=oB h
      obtain⟨hy9,h⟩:=gd h
      obtain⟨hy10,h⟩:=gd h
      obtain rfl:=oI h
      exact runC2 hm ⟨[1,2,5,6,7,8,9,10,23,24,25],[(0,0,true),(1,1,false),(2,2,true),(3,3,true)],5,0,[],false,[],[],[]⟩ (k0 <|
       k3 <|
       ww (q0_ n (rnd:=rnd) x0 x1 x2 x3 x4 (x5a::x5t) y3_ x11 x12 ((x6a::x6t),x7,x8,x9,(w64 (x12+1))) (([]:List Int),y5_1,y5_2,y5_3,y5_4) hy5) <|
       ww (qa_ rwf_iiiiiiLu x0 35) <|
       ww (qc_ x3 3) <|
       ww (qc_ (x5a::x5t) 3) <|
       ww (qc_ (x6a::x6t) 3) <|
       ll 23 ⟨⟨[1,2,5,6,7,8,9,10,12,23,24,25],[(0,0,true),(1,1,false),(2,2,true),(3,3,true),(4,4,true)],5,0,[],false,[],[],[]⟩,(qd_ x0 x1 x2 x3 x4 (x5a::x5t) y3_ x11 x12 (([]:List Int),y5_1,y5_2,y5_3,y5_4)).1,(qd_ x0 x1 x2 x3 x4 (x5a::x5t) y3_ x11 x12 (([]:List Int),y5_1,y5_2,y5_3,y5_4)).2⟩ <|
       zz 28 (xk13 0 U8 hy6) <|
       zz 30 (ok20 hy8 (hy7)) <|
       zz 36 (xk19 2 x4 hy9) <|
       z2 37 (stI ((maxB y5_3 (y8_.2.2.2.2.2.1))) hy10) <|
       ww (qa_ rwf_iiiiiiLu x0 35) <|
       ww (qc_ ((x3).set (y3_).toNat (maxB y5_3 (y8_.2.2.2.2.2.1))) 3) <|
       ww (qc_ (x5a::x5t) 3) <|
       ee) (by kernel_rfl)
     | cons y5_0a y5_0t=>
      dsimp only at h
      obtain⟨hy6,h⟩:=gd h
      obtain⟨hy7,h⟩:=gd h
      obtain⟨y8_,hy8,h⟩:=oB h
      obtain⟨hy9,h⟩:=gd h
      obtain⟨hy10,h⟩:=gd h
      obtain rfl:=oI h
      exact runC2 hm ⟨[1,2,5,6,7,8,9,10,23,24,25],[(0,0,true),(1,1,false),(2,2,true),(3,3,true),(4,4,true)],5,0,[],false,[],[],[]⟩ (k0 <|
       k3 <|
       ww (q0_ n (rnd:=rnd) x0 x1 x2 x3 x4 (x5a::x5t) y3_ x11 x12 ((x6a::x6t),x7,x8,x9,(w64 (x12+1))) ((y5_0a::y5_0t),y5_1,y5_2,y5_3,y5_4) hy5) <|
       ww (qa_ rwf_iiiiiiLu x0 35) <|
       ww (qc_ x3 3) <|
       ww (qc_ (x5a::x5t) 3) <|
       ww (qc_ (x6a::x6t) 3) <|
       ll 23 ⟨⟨[1,2,5,6,7,8,9,10,12,23,24,25],[(0,0,true),(1,1,false),(2,2,true),(3,3,true),(4,4,true)],5,0,[],false,[],[],[]⟩,(qd_ x0 x1 x2 x3 x4 (x5a::x5t) y3_ x11 x12 ((y5_0a::y5_0t),y5_1,y5_2,y5_3,y5_4)).1,(qd_ x0 x1 x2 x3 x4 (x5a::x5t) y3_ x11 x12 ((y5_0a::y5_0t),y5_1,y5_2,y5_3,y5_4)).2⟩ <|
       zz 28 (xk13 0 U8 hy6) <|
       zz 30 (ok20 hy8 (hy7)) <|
       zz 36 (xk19 2 x4 hy9) <|
       z2 37 (stI ((maxB y5_3 (y8_.2.2.2.2.2.1))) hy10) <|
       ww (qa_ rwf_iiiiiiLu x0 35) <|
       ww (qc_ ((x3).set (y3_).toNat (maxB y5_3 (y8_.2.2.2.2.2.1))) 3) <|
       ww (qc_ (x5a::x5t) 3) <|
       ww (qc_ (y5_0a::y5_0t) 3) <|
       ee) (by kernel_rfl)
    ·rw[if_neg hy4] at h
     obtain⟨y5_,hy5,h⟩:=oB h
     have k3:=fun {A L l} (k:PL A L l)=>zz 16 (xdF hy4) <|
      yy 21 (.call (qio_ y3_ x0 x2 y5_ [(0,1,false),(1,0,true)] [])) <|
      ww (qf2_ n y3_ x0 x2 y5_ hy5) <|
      ww (qa_ rwf_iiiiiiLu x0 35) <|
      k
     by_cases hy6:y5_=true
     ·rw[if_pos hy6] at h
      obtain⟨hy7,h⟩:=gd h
      obtain⟨⟨y8_0,y8_1,y8_2,y8_3,y8_4⟩,hy8,h⟩:=oB h
      dsimp only at h
      have k7:=fun {A L l} (k:PL A L l)=>zz 22 (xbT hy6) <|
       yy 24 (.pur (sN 4 ((x8+((1:Int)).toNat)*1) (x7-((1:Int)).toNat) (Nat.add big 1))) <|
       ww (p:=qm8_ P 29 (sN 4 (x8*1) x7 (Nat.add big 1)) (some (i6 (1:Int))) none none Ax.h0=some ((sN 4 ((x8+((1:Int)).toNat)*1) (x7-((1:Int)).toNat) (Nat.add big 1)),Ax.h0)) (slRowO (e:=3) (es:=1) x8 (by kernel_rfl) (by kernel_rfl) rfl rfl hy7) <|
       k
      cases y8_0 with
      | nil=>
       dsimp only at h
       obtain⟨hy9,h⟩:=gd h
       obtain⟨hy10,h⟩:=gd h
       obtain⟨y11_,hy11,h⟩:=oB h
       obtain⟨hy12,h⟩:=gd h
       obtain⟨hy13,h⟩:=gd h
       obtain rfl:=oI h
       exact runC2 hm ⟨[1,2,5,6,7,8,9,10,23,24,25],[(0,0,true),(1,1,false),(2,2,true),(3,3,true)],5,0,[],false,[],[],[]⟩ (k0 <|
        k3 <|
        k7 <|
        ww (q0_ n (rnd:=rnd) x0 x1 x2 x3 x4 (x5a::x5t) y3_ x11 x12 ((x6a::x6t),(x7-((1:Int)).toNat),(x8+((1:Int)).toNat),x9,x10) (([]:List Int),y8_1,y8_2,y8_3,y8_4) hy8) <|
        ww (qa_ rwf_iiiiiiLu x0 35) <|
        ww (qc_ x3 3) <|
        ww (qc_ (x5a::x5t) 3) <|
        ww (qc_ (x6a::x6t) 3) <|
        ll 28 ⟨⟨[1,2,5,6,7,8,9,10,12,23,24,25],[(0,0,true),(1,1,false),(2,2,true),(3,3,true),(4,4,true)],5,0,[],false,[],[],[]⟩,(qd_ x0 x1 x2 x3 x4 (x5a::x5t) y3_ x11 x12 (([]:List Int),y8_1,y8_2,y8_3,y8_4)).1,(qd_ x0 x1 x2 x3 x4 (x5a::x5t) y3_ x11 x12 (([]:List Int),y8_1,y8_2,y8_3,y8_4)).2⟩ <|
        zz 33 (xk13 0 U8 hy9) <|
        zz 35 (ok20 hy11 (hy10)) <|
        zz 41 (xk19 2 x4 hy12) <|
        z2 42 (stI ((maxB y8_3 (y11_.2.2.2.2.2.1))) hy13) <|
        ww (qa_ rwf_iiiiiiLu x0 35) <|
        ww (qc_ ((x3).set (y3_).toNat (maxB y8_3 (y11_.2.2.2.2.2.1))) 3) <|
        ww (qc_ (x5a::x5t) 3) <|
        ee) (by kernel_rfl)
      | cons y8_0a y8_0t=>
       dsimp only at h
       obtain⟨hy9,h⟩:=gd h
       obtain⟨hy10,h⟩:=gd h
       obtain⟨y11_,hy11,h⟩:=oB h
       obtain⟨hy12,h⟩:=gd h
       obtain⟨hy13,h⟩:=gd h
       obtain rfl:=oI h
       exact runC2 hm ⟨[1,2,5,6,7,8,9,10,23,24,25],[(0,0,true),(1,1,false),(2,2,true),(3,3,true),(4,4,true)],5,0,[],false,[],[],[]⟩ (k0 <|
        k3 <|
        k7 <|
        ww (q0_ n (rnd:=rnd) x0 x1 x2 x3 x4 (x5a::x5t) y3_ x11 x12 ((x6a::x6t),(x7-((1:Int)).toNat),(x8+((1:Int)).toNat),x9,x10) ((y8_0a::y8_0t),y8_1,y8_2,y8_3,y8_4) hy8) <|
        ww (qa_ rwf_iiiiiiLu x0 35) <|
        ww (qc_ x3 3) <|
        ww (qc_ (x5a::x5t) 3) <|
        ww (qc_ (x6a::x6t) 3) <|
        ll 28 ⟨⟨[1,2,5,6,7,8,9,10,12,23,24,25],[(0,0,true),(1,1,false),(2,2,true),(3,3,true),(4,4,true)],5,0,[],false,[],[],[]⟩,(qd_ x0 x1 x2 x3 x4 (x5a::x5t) y3_ x11 x12 ((y8_0a::y8_0t),y8_1,y8_2,y8_3,y8_4)).1,(qd_ x0 x1 x2 x3 x4 (x5a::x5t) y3_ x11 x12 ((y8_0a::y8_0t),y8_1,y8_2,y8_3,y8_4)).2⟩ <|
        zz 33 (xk13 0 U8 hy9) <|
        zz 35 (ok20 hy11 (hy10)) <|
        zz 41 (xk19 2 x4 hy12) <|
        z2 42 (stI ((maxB y8_3 (y11_.2.2.2.2.2.1))) hy13) <|
        ww (qa_ rwf_iiiiiiLu x0 35) <|
        ww (qc_ ((x3).set (y3_).toNat (maxB y8_3 (y11_.2.2.2.2.2.1))) 3) <|
        ww (qc_ (x5a::x5t) 3) <|
        ww (qc_ (y8_0a::y8_0t) 3) <|
        ee) (by kernel_rfl)
     ·rw[if_neg hy6] at h
      obtain⟨⟨y7_0,y7_1,y7_2,y7_3,y7_4⟩,hy7,h⟩:=oB h
      dsimp only at h
      have k7:=fun {A L l} (k:PL A L l)=>zz 22 (xbF hy6) <|
       k
      cases y7_0 with
      | nil=>
       dsimp only at h
       obtain⟨hy8,h⟩:=gd h
       obtain⟨hy9,h⟩:=gd h
       obtain⟨y10_,hy10,h⟩:=oB h
       obtain⟨hy11,h⟩:=gd h
       obtain⟨hy12,h⟩:=gd h
       obtain rfl:=oI h
       exact runC2 hm ⟨[1,2,5,6,7,8,9,10,23,24,25],[(0,0,true),(1,1,false),(2,2,true),(3,3,true)],5,0,[],false,[],[],[]⟩ (k0 <|
        k3 <|
        k7 <|
        ww (q0_ n (rnd:=rnd) x0 x1 x2 x3 x4 (x5a::x5t) y3_ x11 x12 ((x6a::x6t),x7,x8,x9,x10) (([]:List Int),y7_1,y7_2,y7_3,y7_4) hy7) <|
        ww (qa_ rwf_iiiiiiLu x0 35) <|
        ww (qc_ x3 3) <|
        ww (qc_ (x5a::x5t) 3) <|
        ww (qc_ (x6a::x6t) 3) <|
        ll 25 ⟨⟨[1,2,5,6,7,8,9,10,12,23,24,25],[(0,0,true),(1,1,false),(2,2,true),(3,3,true),(4,4,true)],5,0,[],false,[],[],[]⟩,(qd_ x0 x1 x2 x3 x4 (x5a::x5t) y3_ x11 x12 (([]:List Int),y7_1,y7_2,y7_3,y7_4)).1,(qd_ x0 x1 x2 x3 x4 (x5a::x5t) y3_ x11 x12 (([]:List Int),y7_1,y7_2,y7_3,y7_4)).2⟩ <|
        zz 30 (xk13 0 U8 hy8) <|
        zz 32 (ok20 hy10 (hy9)) <|
        zz 38 (xk19 2 x4 hy11) <|
        z2 39 (stI ((maxB y7_3 (y10_.2.2.2.2.2.1))) hy12) <|
        ww (qa_ rwf_iiiiiiLu x0 35) <|
        ww (qc_ ((x3).set (y3_).toNat (maxB y7_3 (y10_.2.2.2.2.2.1))) 3) <|
        ww (qc_ (x5a::x5t) 3) <|
        ee) (by kernel_rfl)
      | cons y7_0a y7_0t=>
       dsimp only at h
       obtain⟨hy8,h⟩:=gd h
       obtain⟨hy9,h⟩:=gd h
       obtain⟨y10_,hy10,h⟩:=oB h
       obtain⟨hy11,h⟩:=gd h
       obtain⟨hy12,h⟩:=gd h
       obtain rfl:=oI h
       exact runC2 hm ⟨[1,2,5,6,7,8,9,10,23,24,25],[(0,0,true),(1,1,false),(2,2,true),(3,3,true),(4,4,true)],5,0,[],false,[],[],[]⟩ (k0 <|
        k3 <|
        k7 <|
        ww (q0_ n (rnd:=rnd) x0 x1 x2 x3 x4 (x5a::x5t) y3_ x11 x12 ((x6a::x6t),x7,x8,x9,x10) ((y7_0a::y7_0t),y7_1,y7_2,y7_3,y7_4) hy7) <|
        ww (qa_ rwf_iiiiiiLu x0 35) <|
        ww (qc_ x3 3) <|
        ww (qc_ (x5a::x5t) 3) <|
        ww (qc_ (x6a::x6t) 3) <|
        ll 25 ⟨⟨[1,2,5,6,7,8,9,10,12,23,24,25],[(0,0,true),(1,1,false),(2,2,true),(3,3,true),(4,4,true)],5,0,[],false,[],[],[]⟩,(qd_ x0 x1 x2 x3 x4 (x5a::x5t) y3_ x11 x12 ((y7_0a::y7_0t),y7_1,y7_2,y7_3,y7_4)).1,(qd_ x0 x1 x2 x3 x4 (x5a::x5t) y3_ x11 x12 ((y7_0a::y7_0t),y7_1,y7_2,y7_3,y7_4)).2⟩ <|
        zz 30 (xk13 0 U8 hy8) <|
        zz 32 (ok20 hy10 (hy9)) <|
        zz 38 (xk19 2 x4 hy11) <|
        z2 39 (stI ((maxB y7_3 (y10_.2.2.2.2.2.1))) hy12) <|
        ww (qa_ rwf_iiiiiiLu x0 35) <|
        ww (qc_ ((x3).set (y3_).toNat (maxB y7_3 (y10_.2.2.2.2.2.1))) 3) <|
        ww (qc_ (x5a::x5t) 3) <|
        ww (qc_ (y7_0a::y7_0t) 3) <|
        ee) (by kernel_rfl)
   ·rw[if_neg hy1] at h
    obtain rfl:=oI h
    exact runC2 hm ⟨[5],[(0,0,true),(1,2,true)],2,0,[],false,[],[],[]⟩ (zz 1 (xdF hy1) <|
     ww (qa_ rwf_iiiiiiLu x0 35) <|
     ww (qc_ x3 3) <|
     ee) (by kernel_rfl)
theorem qhy_ (n:Nat){rnd:Option Nat}(x0:List R8)(x1:Int)(x2 x4:Nat)(x11:Int)(st:List Int×List Int×List Int×Nat×Nat×Int×Int×Int)(r:List Int)(h:qed_ n x0 x1 x2 x4 x11 st=some r):CG P rnd (fnN P 18) 1 (qo_ P 18 [false,true,false,true,true,true,true,true,true,true]) (qfn_ x0 x1 x2 x4 x11 st) (qch_ x0 x1 x2 x4 x11 r):=
 CG.iter (b:=qo_ P 18 [false,false,true,false,true,true,true,true,true,true,true]) (by kernel_rfl) (body:=qci_ n x0 x1 x2 x4 x11) (S:=qfn_ x0 x1 x2 x4 x11) (X:=qch_ x0 x1 x2 x4 x11)
  (fun s s' h=>qnx_ n x0 x1 x2 x4 x11 s (.inl s') h)
  (fun s r h=>qnx_ n x0 x1 x2 x4 x11 s (.inr r) h)
  (fun r=>by intro hx; cases hx) h
def qhz_ (n:Nat)(a0:List R8)(a1:Nat)(a2:Int):Option (List Int):=
 (qff_ n a0 a1).bind fun c1_=>
 if c1_=0 then
  if 0≤((a1:Nat):Int) then
   if (((a1:Nat):Int)).toNat*8≤140737488355328 then
    match qf1_ n a0 a1 with
    | none=>none
    | some (.inl c5_)=>
     match c5_ with
     | []=>
      (qed_ n a0 a2 a1 ((((a1:Nat):Int)).toNat) 0 ((List.replicate (((a1:Nat):Int)).toNat (0:Int)),([]:List Int),([]:List Int),0,0,0,0,0)).bind fun c6_=>
      some c6_
     | c5_a::c5_t=>
      (qed_ n a0 a2 a1 ((((a1:Nat):Int)).toNat) ((((c5_a::c5_t)).length:Nat):Int) ((List.replicate (((a1:Nat):Int)).toNat (0:Int)),(c5_a::c5_t),([]:List Int),0,0,0,0,0)).bind fun c6_=>
      some c6_
    | some (.inr _)=>
     (qed_ n a0 a2 a1 ((((a1:Nat):Int)).toNat) 0 ((List.replicate (((a1:Nat):Int)).toNat (0:Int)),([]:List Int),([]:List Int),0,0,0,0,0)).bind fun c6_=>
     some c6_
   else none
  else none
 else
  none
theorem qro_ (n:Nat)(a0:List R8)(a1:Nat)(a2:Int)(r:List Int)(h:qhz_ n a0 a1 a2=some r):Gv P (.func 18) (qpy_ a0 a1 a2) (qpz_ a0 a1 a2) (qmk_ a0 a1 a2 r) (qml_ a0 a1 a2 r):=by
 unfold qhz_ at h
 obtain⟨c1_,hc1,h⟩:=oB h
 have k0:=fun {A L l} (k:PL A L l)=>yy 6 (.call (qnu_ a0 a1 c1_ [(0,0,true)] [])) <|
  ww (qki_ n a0 a1 c1_ hc1) <|
  ww (qa_ rwf_iiiiiiLu a0 35) <|
  k
 by_cases hc2:c1_=0
 ·rw[if_pos hc2] at h
  obtain⟨hc3,h⟩:=gd h
  obtain⟨hc4,h⟩:=gd h
  have k3:=fun {A L l} (k:PL A L l)=>zz 7 (xnF hc2) <|
   yy 12 (.mk (((a1:Nat):Int)).toNat (iv (List.replicate (((a1:Nat):Int)).toNat (0:Int)))) <|
   ww (p:=natOf (i6 ((a1:Nat):Int))=some (((a1:Nat):Int)).toNat) (qe4_ hc3) <|
   ww (p:=natOf (i6 ((a1:Nat):Int))=some (((a1:Nat):Int)).toNat) (qe4_ hc3) <|
   ww (p:=fits (((a1:Nat):Int)).toNat 8=true) (qk3_ hc4 (by omega)) <|
   ww (p:=isZ8 [(i6 (0:Int))]=false) (rfl) <|
   ww (p:=reps [(i6 (0:Int))] (((a1:Nat):Int)).toNat=(iv (List.replicate (((a1:Nat):Int)).toNat (0:Int)))) (reps_iv _) <|
   k
  rcases hc5:qf1_ n a0 a1 with _ | (c5_ | ⟨⟩)
  ·rw[hc5] at h; cases h
  ·rw[hc5] at h
   dsimp only at h
   cases c5_ with
   | nil=>
    dsimp only at h
    obtain⟨c6_,hc6,h⟩:=oB h
    obtain rfl:=oI h
    exact runF2 hm ⟨[4],[(0,0,true),(1,1,true)],2,0,[],false,[],[],[]⟩ (k0 <|
     k3 <|
     yy 16 (.call (qmj_ a0 a1 (.inl ([]:List Int)) [(0,0,true)] [(0,0,true)])) <|
     ww (qjc_ n a0 a1 (.inl ([]:List Int)) hc5) <|
     ww (qa_ rwf_iiiiiiLu a0 35) <|
     ww (qa_ rwf_iiiiiiLu a0 35) <|
     ww (qhy_ n (rnd:=none) a0 a2 a1 ((((a1:Nat):Int)).toNat) 0 ((List.replicate (((a1:Nat):Int)).toNat (0:Int)),([]:List Int),([]:List Int),0,0,0,0,0) c6_ hc6) <|
     ww (qa_ rwf_iiiiiiLu a0 35) <|
     ww (qc_ (List.replicate (((a1:Nat):Int)).toNat (0:Int)) 3) <|
     ll 32 ⟨⟨[1,2,5,6,7,8,9,10,23,24,25],[(0,0,true),(1,1,false),(2,2,true)],5,0,[],false,[],[],[]⟩,(qch_ a0 a2 a1 ((((a1:Nat):Int)).toNat) 0 c6_).1,(qch_ a0 a2 a1 ((((a1:Nat):Int)).toNat) 0 c6_).2⟩ <|
     ww (qa_ rwf_iiiiiiLu a0 35) <|
     ww (qc_ c6_ 3) <|
     ee) (by kernel_rfl)
   | cons c5_a c5_t=>
    dsimp only at h
    obtain⟨c6_,hc6,h⟩:=oB h
    obtain rfl:=oI h
    exact runF2 hm ⟨[4],[(0,0,true),(1,1,true)],2,0,[],false,[],[],[]⟩ (k0 <|
     k3 <|
     yy 16 (.call (qmj_ a0 a1 (.inl (c5_a::c5_t)) [(0,0,true)] [(0,0,true),(4,2,true)])) <|
     ww (qjc_ n a0 a1 (.inl (c5_a::c5_t)) hc5) <|
     ww (qa_ rwf_iiiiiiLu a0 35) <|
     ww (qa_ rwf_iiiiiiLu a0 35) <|
     ww (qc_ (c5_a::c5_t) 3) <|
     ww (qhy_ n (rnd:=none) a0 a2 a1 ((((a1:Nat):Int)).toNat) ((((c5_a::c5_t)).length:Nat):Int) ((List.replicate (((a1:Nat):Int)).toNat (0:Int)),(c5_a::c5_t),([]:List Int),0,0,0,0,0) c6_ hc6) <|
     ww (qa_ rwf_iiiiiiLu a0 35) <|
     ww (qc_ (List.replicate (((a1:Nat):Int)).toNat (0:Int)) 3) <|
     ww (qc_ (c5_a::c5_t) 3) <|
     ll 32 ⟨⟨[1,2,5,6,7,8,9,10,23,24,25],[(0,0,true),(1,1,false),(2,2,true),(3,4,true)],5,0,[],false,[],[],[]⟩,(qch_ a0 a2 a1 ((((a1:Nat):Int)).toNat) ((((c5_a::c5_t)).length:Nat):Int) c6_).1,(qch_ a0 a2 a1 ((((a1:Nat):Int)).toNat) ((((c5_a::c5_t)).length:Nat):Int) c6_).2⟩ <|
     ww (qa_ rwf_iiiiiiLu a0 35) <|
     ww (qc_ c6_ 3) <|
     ee) (by kernel_rfl)
  ·rw[hc5] at h
   dsimp only at h
   obtain⟨c6_,hc6,h⟩:=oB h
   obtain rfl:=oI h
   exact runF2 hm ⟨[4],[(0,0,true),(1,1,true)],2,0,[],false,[],[],[]⟩ (k0 <|
    k3 <|
    yy 16 (.call (qmj_ a0 a1 (.inr ()) [(0,0,true)] [(0,0,true)])) <|
    ww (qjc_ n a0 a1 (.inr ()) hc5) <|
    ww (qa_ rwf_iiiiiiLu a0 35) <|
    ww (qa_ rwf_iiiiiiLu a0 35) <|
    ww (qhy_ n (rnd:=none) a0 a2 a1 ((((a1:Nat):Int)).toNat) 0 ((List.replicate (((a1:Nat):Int)).toNat (0:Int)),([]:List Int),([]:List Int),0,0,0,0,0) c6_ hc6) <|
    ww (qa_ rwf_iiiiiiLu a0 35) <|
    ww (qc_ (List.replicate (((a1:Nat):Int)).toNat (0:Int)) 3) <|
    ll 32 ⟨⟨[1,2,5,6,7,8,9,10,23,24,25],[(0,0,true),(1,1,false),(2,2,true)],5,0,[],false,[],[],[]⟩,(qch_ a0 a2 a1 ((((a1:Nat):Int)).toNat) 0 c6_).1,(qch_ a0 a2 a1 ((((a1:Nat):Int)).toNat) 0 c6_).2⟩ <|
    ww (qa_ rwf_iiiiiiLu a0 35) <|
    ww (qc_ c6_ 3) <|
    ee) (by kernel_rfl)
 ·rw[if_neg hc2] at h
  cases h


end Go.Proofs.YtleifgniphogeaaGreatDoor.mwh19
