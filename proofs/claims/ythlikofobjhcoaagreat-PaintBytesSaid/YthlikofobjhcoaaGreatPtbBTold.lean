/-
  What functions do, told by pure functions. No condition.
-/
import Derived.Test.YthlikofobjhcoaaGreatPtbATold
set_option linter.unusedSimpArgs false
set_option linter.unusedVariables false
set_option linter.unusedSectionVars false
set_option linter.unnecessarySimpa false
set_option maxRecDepth 100000
noncomputable section
namespace Go.Proofs.YthlikofobjhcoaaGreat.ptb28
open Go Go.Proofs.YthlikofobjhcoaaGreat Ax
variable [Args]
def qxf_ (a0 a1 a2 a3 a4 a5:Int)(a6:NL)(a7:Int)(r:Bool):Value:=match r with
 | o0=>(bO o0)
def qxg_ (a0 a1 a2 a3 a4 a5:Int)(a6:NL)(a7:Int)(r:Bool):AH:=match r with
 | o0=>⟨sB [],0,0⟩
abbrev G_treesoundq1 (a0 a1 a2 a3 a4 a5:Int)(a6:NL)(a7:Int)(r:Bool):Prop:=Gv P (.func 44) [(Value.agg #[(i6 a0),(i6 a1),(i6 a2),(i6 a3),(i6 a4),(i6 a5),(nlV a6),(Value.int .u64 a7)])] ⟨sB [],0,0⟩ (qxf_ a0 a1 a2 a3 a4 a5 a6 a7 r) (qxg_ a0 a1 a2 a3 a4 a5 a6 a7 r)
abbrev C_treesoundq1 (a0 a1 a2 a3 a4 a5:Int)(a6:NL)(a7:Int)(r:Bool)(ins outs:BL):CallA:=⟨0,ins,qxf_ a0 a1 a2 a3 a4 a5 a6 a7 r,qxg_ a0 a1 a2 a3 a4 a5 a6 a7 r,outs⟩
def qi4_ (n:Nat)(a0 a1 a2 a3 a4 a5:Int)(a6:NL)(a7:Int):Option (Bool):=
 if a2<0 then
  some false
 else
  if a2 > a4 then
   some false
  else
   if a5≤a2 then
    some false
   else
    if a1=1 then
     if a3=a2 then
      some true
     else
      some false
    else
     if a1=2 then
      if a3=a2 then
       some true
      else
       some false
     else
      if a1=4 then
       if a3=a2 then
        if a4=a2 then
         if (((a6).l.length:Nat):Int)=0 then
          some true
         else
          some false
        else
         some false
       else
        some false
      else
       if a1=3 then
        if a3 ≥ a2 then
         if a3≤a4 then
          if (((a6).l.length:Nat):Int)=0 then
           some true
          else
           some false
         else
          some false
        else
         some false
       else
        if a1=5 then
         if a3 ≥ a2 then
          if a3≤a4 then
           if (((a6).l.length:Nat):Int)=0 then
            some true
           else
            some false
          else
           some false
         else
          some false
        else
         if a1=6 then
          if a3 ≥ a2 then
           if a3≤a4 then
            if (((a6).l.length:Nat):Int)=0 then
             some true
            else
             some false
           else
            some false
          else
           some false
         else
          some false
theorem qzm_ (n:Nat)(a0 a1 a2 a3 a4 a5:Int)(a6:NL)(a7:Int)(r:Bool)(h:qi4_ n a0 a1 a2 a3 a4 a5 a6 a7=some r):G_treesoundq1 a0 a1 a2 a3 a4 a5 a6 a7 r:=by
 unfold qi4_ at h
 by_cases hc1:a2<0
 ·rw[if_pos hc1] at h
  obtain rfl:=oI h
  exact runF2 hm (kW [2] [] 0 0) (zz 7 (xdT hc1) <|
   ee) (by kernel_rfl)
 ·rw[if_neg hc1] at h
  have k0:=fun {A L l} (k:PL A L l)=>zz 7 (xdF hc1) <|
   k
  by_cases hc2:a2 > a4
  ·rw[if_pos hc2] at h
   obtain rfl:=oI h
   exact runF2 hm (kW [2] [] 0 0) (k0 <|
    zz 13 (xdT hc2) <|
    ee) (by kernel_rfl)
  ·rw[if_neg hc2] at h
   have k1:=fun {A L l} (k:PL A L l)=>zz 13 (xdF hc2) <|
    k
   by_cases hc3:a5≤a2
   ·rw[if_pos hc3] at h
    obtain rfl:=oI h
    exact runF2 hm (kW [2] [] 0 0) (k0 <|
     k1 <|
     zz 20 (xdT hc3) <|
     ee) (by kernel_rfl)
   ·rw[if_neg hc3] at h
    have k2:=fun {A L l} (k:PL A L l)=>zz 20 (xdF hc3) <|
     k
    by_cases hc4:a1=1
    ·rw[if_pos hc4] at h
     have k3:=fun {A L l} (k:PL A L l)=>zz 30 (xeT hc4) <|
      k
     by_cases hc5:a3=a2
     ·rw[if_pos hc5] at h
      obtain rfl:=oI h
      exact runF2 hm (kW [2] [] 0 0) (k0 <|
       k1 <|
       k2 <|
       k3 <|
       zz 39 (xeT hc5) <|
       ee) (by kernel_rfl)
     ·rw[if_neg hc5] at h
      obtain rfl:=oI h
      exact runF2 hm (kW [2] [] 0 0) (k0 <|
       k1 <|
       k2 <|
       k3 <|
       zz 39 (xeF hc5) <|
       ee) (by kernel_rfl)
    ·rw[if_neg hc4] at h
     have k3:=fun {A L l} (k:PL A L l)=>zz 30 (xeF hc4) <|
      k
     by_cases hc5:a1=2
     ·rw[if_pos hc5] at h
      have k4:=fun {A L l} (k:PL A L l)=>zz 33 (xeT hc5) <|
       k
      by_cases hc6:a3=a2
      ·rw[if_pos hc6] at h
       obtain rfl:=oI h
       exact runF2 hm (kW [2] [] 0 0) (k0 <|
        k1 <|
        k2 <|
        k3 <|
        k4 <|
        zz 41 (xeT hc6) <|
        ee) (by kernel_rfl)
      ·rw[if_neg hc6] at h
       obtain rfl:=oI h
       exact runF2 hm (kW [2] [] 0 0) (k0 <|
        k1 <|
        k2 <|
        k3 <|
        k4 <|
        zz 41 (xeF hc6) <|
        ee) (by kernel_rfl)
     ·rw[if_neg hc5] at h
      have k4:=fun {A L l} (k:PL A L l)=>zz 33 (xeF hc5) <|
       k
      by_cases hc6:a1=4
      ·rw[if_pos hc6] at h
       have k5:=fun {A L l} (k:PL A L l)=>zz 37 (xeT hc6) <|
        k
       by_cases hc7:a3=a2
       ·rw[if_pos hc7] at h
        have k6:=fun {A L l} (k:PL A L l)=>zz 45 (xeT hc7) <|
         k
        by_cases hc8:a4=a2
        ·rw[if_pos hc8] at h
         have k7:=fun {A L l} (k:PL A L l)=>zz 51 (xeT hc8) <|
          k
         by_cases hc9:(((a6).l.length:Nat):Int)=0
         ·rw[if_pos hc9] at h
          obtain rfl:=oI h
          exact runF2 hm (kW [2] [] 0 0) (k0 <|
           k1 <|
           k2 <|
           k3 <|
           k4 <|
           k5 <|
           k6 <|
           k7 <|
           zz 57 (xeT hc9) <|
           ee) (by kernel_rfl)
         ·rw[if_neg hc9] at h
          obtain rfl:=oI h
          exact runF2 hm (kW [2] [] 0 0) (k0 <|
           k1 <|
           k2 <|
           k3 <|
           k4 <|
           k5 <|
           k6 <|
           k7 <|
           zz 57 (xeF hc9) <|
           ee) (by kernel_rfl)
        ·rw[if_neg hc8] at h
         obtain rfl:=oI h
         exact runF2 hm (kW [2] [] 0 0) (k0 <|
          k1 <|
          k2 <|
          k3 <|
          k4 <|
          k5 <|
          k6 <|
          zz 51 (xeF hc8) <|
          ee) (by kernel_rfl)
       ·rw[if_neg hc7] at h
        obtain rfl:=oI h
        exact runF2 hm (kW [2] [] 0 0) (k0 <|
         k1 <|
         k2 <|
         k3 <|
         k4 <|
         k5 <|
         zz 45 (xeF hc7) <|
         ee) (by kernel_rfl)
      ·rw[if_neg hc6] at h
       have k5:=fun {A L l} (k:PL A L l)=>zz 37 (xeF hc6) <|
        k
       by_cases hc7:a1=3
       ·rw[if_pos hc7] at h
        have k6:=fun {A L l} (k:PL A L l)=>zz 42 (xeT hc7) <|
         k
        by_cases hc8:a3 ≥ a2
        ·rw[if_pos hc8] at h
         have k7:=fun {A L l} (k:PL A L l)=>zz 51 (xdT hc8) <|
          k
         by_cases hc9:a3≤a4
         ·rw[if_pos hc9] at h
          have k8:=fun {A L l} (k:PL A L l)=>zz 57 (xdT hc9) <|
           k
          by_cases hc10:(((a6).l.length:Nat):Int)=0
          ·rw[if_pos hc10] at h
           obtain rfl:=oI h
           exact runF2 hm (kW [2] [] 0 0) (k0 <|
            k1 <|
            k2 <|
            k3 <|
            k4 <|
            k5 <|
            k6 <|
            k7 <|
            k8 <|
            zz 63 (xeT hc10) <|
            ee) (by kernel_rfl)
          ·rw[if_neg hc10] at h
           obtain rfl:=oI h
           exact runF2 hm (kW [2] [] 0 0) (k0 <|
            k1 <|
            k2 <|
            k3 <|
            k4 <|
            k5 <|
            k6 <|
            k7 <|
            k8 <|
            zz 63 (xeF hc10) <|
            ee) (by kernel_rfl)
         ·rw[if_neg hc9] at h
          obtain rfl:=oI h
          exact runF2 hm (kW [2] [] 0 0) (k0 <|
           k1 <|
           k2 <|
           k3 <|
           k4 <|
           k5 <|
           k6 <|
           k7 <|
           zz 57 (xdF hc9) <|
           ee) (by kernel_rfl)
        ·rw[if_neg hc8] at h
         obtain rfl:=oI h
         exact runF2 hm (kW [2] [] 0 0) (k0 <|
          k1 <|
          k2 <|
          k3 <|
          k4 <|
          k5 <|
          k6 <|
          zz 51 (xdF hc8) <|
          ee) (by kernel_rfl)
       ·rw[if_neg hc7] at h
        have k6:=fun {A L l} (k:PL A L l)=>zz 42 (xeF hc7) <|
         k
        by_cases hc8:a1=5
        ·rw[if_pos hc8] at h
         have k7:=fun {A L l} (k:PL A L l)=>zz 46 (xeT hc8) <|
          k
         by_cases hc9:a3 ≥ a2
         ·rw[if_pos hc9] at h
          have k8:=fun {A L l} (k:PL A L l)=>zz 55 (xdT hc9) <|
           k
          by_cases hc10:a3≤a4
          ·rw[if_pos hc10] at h
           have k9:=fun {A L l} (k:PL A L l)=>zz 61 (xdT hc10) <|
            k
           by_cases hc11:(((a6).l.length:Nat):Int)=0
           ·rw[if_pos hc11] at h
            obtain rfl:=oI h
            exact runF2 hm (kW [2] [] 0 0) (k0 <|
             k1 <|
             k2 <|
             k3 <|
             k4 <|
             k5 <|
             k6 <|
             k7 <|
             k8 <|
             k9 <|
             zz 67 (xeT hc11) <|
             ee) (by kernel_rfl)
           ·rw[if_neg hc11] at h
            obtain rfl:=oI h
            exact runF2 hm (kW [2] [] 0 0) (k0 <|
             k1 <|
             k2 <|
             k3 <|
             k4 <|
             k5 <|
             k6 <|
             k7 <|
             k8 <|
             k9 <|
             zz 67 (xeF hc11) <|
             ee) (by kernel_rfl)
          ·rw[if_neg hc10] at h
           obtain rfl:=oI h
           exact runF2 hm (kW [2] [] 0 0) (k0 <|
            k1 <|
            k2 <|
            k3 <|
            k4 <|
            k5 <|
            k6 <|
            k7 <|
            k8 <|
            zz 61 (xdF hc10) <|
            ee) (by kernel_rfl)
         ·rw[if_neg hc9] at h
          obtain rfl:=oI h
          exact runF2 hm (kW [2] [] 0 0) (k0 <|
           k1 <|
           k2 <|
           k3 <|
           k4 <|
           k5 <|
           k6 <|
           k7 <|
           zz 55 (xdF hc9) <|
           ee) (by kernel_rfl)
        ·rw[if_neg hc8] at h
         have k7:=fun {A L l} (k:PL A L l)=>zz 46 (xeF hc8) <|
          k
         by_cases hc9:a1=6
         ·rw[if_pos hc9] at h
          have k8:=fun {A L l} (k:PL A L l)=>zz 49 (xeT hc9) <|
           k
          by_cases hc10:a3 ≥ a2
          ·rw[if_pos hc10] at h
           have k9:=fun {A L l} (k:PL A L l)=>zz 57 (xdT hc10) <|
            k
           by_cases hc11:a3≤a4
           ·rw[if_pos hc11] at h
            have k10:=fun {A L l} (k:PL A L l)=>zz 63 (xdT hc11) <|
             k
            by_cases hc12:(((a6).l.length:Nat):Int)=0
            ·rw[if_pos hc12] at h
             obtain rfl:=oI h
             exact runF2 hm (kW [2] [] 0 0) (k0 <|
              k1 <|
              k2 <|
              k3 <|
              k4 <|
              k5 <|
              k6 <|
              k7 <|
              k8 <|
              k9 <|
              k10 <|
              zz 69 (xeT hc12) <|
              ee) (by kernel_rfl)
            ·rw[if_neg hc12] at h
             obtain rfl:=oI h
             exact runF2 hm (kW [2] [] 0 0) (k0 <|
              k1 <|
              k2 <|
              k3 <|
              k4 <|
              k5 <|
              k6 <|
              k7 <|
              k8 <|
              k9 <|
              k10 <|
              zz 69 (xeF hc12) <|
              ee) (by kernel_rfl)
           ·rw[if_neg hc11] at h
            obtain rfl:=oI h
            exact runF2 hm (kW [2] [] 0 0) (k0 <|
             k1 <|
             k2 <|
             k3 <|
             k4 <|
             k5 <|
             k6 <|
             k7 <|
             k8 <|
             k9 <|
             zz 63 (xdF hc11) <|
             ee) (by kernel_rfl)
          ·rw[if_neg hc10] at h
           obtain rfl:=oI h
           exact runF2 hm (kW [2] [] 0 0) (k0 <|
            k1 <|
            k2 <|
            k3 <|
            k4 <|
            k5 <|
            k6 <|
            k7 <|
            k8 <|
            zz 57 (xdF hc10) <|
            ee) (by kernel_rfl)
         ·rw[if_neg hc9] at h
          obtain rfl:=oI h
          exact runF2 hm (kW [2] [] 0 0) (k0 <|
           k1 <|
           k2 <|
           k3 <|
           k4 <|
           k5 <|
           k6 <|
           k7 <|
           zz 49 (xeF hc9) <|
           ee) (by kernel_rfl)

def qxh_ (a0:W8)(r:Int):Value:=match r with
 | o0=>(i6 o0)
def qxi_ (a0:W8)(r:Int):AH:=match r with
 | o0=>⟨sB [],0,0⟩
abbrev G_treeCheckq1 (a0:W8)(r:Int):Prop:=Gv P (.func 23) [(wlV a0)] ⟨sB [],0,0⟩ (qxh_ a0 r) (qxi_ a0 r)
abbrev qs4_ (a0:W8)(r:Int)(ins outs:BL):CallA:=⟨0,ins,qxh_ a0 r,qxi_ a0 r,outs⟩
def qk7_ (x0:W8)(x1 st:Int):XSt:=match st with
 | x2=>(sT 36 [(16,(wlV x0)),(17,(i6 x1)),(18,(i6 x2))],[],⟨sB [],0,0⟩)
def qfm_ (x0:W8)(x1:Int)(r:(Unit) ⊕ (Unit)):Ex×XSt:=match r with
 | .inl _=>(.ret,(sT 36 [(2,(i6 (2:Int)))],[],⟨sB [],0,0⟩))
 | .inr _=>(.exit 0,(sT 36 [],[],⟨sB [],0,0⟩))
abbrev qz4_ (rd:Option Nat)(x0:W8)(x1 st:Int)(r:(Unit) ⊕ (Unit)):Prop:=CG P rd (fnN P 23) 0 (qx_ P 23 [false,true,false,true,true,true]) (qk7_ x0 x1 st) (qfm_ x0 x1 r)
def qe0_ (n:Nat)(x0:W8)(x1 st:Int):Option ((Int) ⊕ ((Unit) ⊕ (Unit))):=match st with
 | x2=>
  if x2<x1 then
   if 0≤x2∧x2<(((x0).l.length:Nat):Int) then
    ((some (((x0).l).getD (x2).toNat (0,0,0,0,0,0,nl0,0)))).bind fun y3_=>
    (qi4_ n (y3_.1) (y3_.2.1) (y3_.2.2.1) (y3_.2.2.2.1) (y3_.2.2.2.2.1) (y3_.2.2.2.2.2.1) (y3_.2.2.2.2.2.2.1) (y3_.2.2.2.2.2.2.2)).bind fun y4_=>
    if y4_=true then
     if (y3_.2.1)=1 then
      if x2 > 0 then
       some (.inr (.inl ()))
      else
       some (.inl (w64 (x2+1)))
     else
      some (.inl (w64 (x2+1)))
    else
     some (.inr (.inl ()))
   else none
  else
   some (.inr (.inr ()))
def qk8_ (n:Nat)(x0:W8)(x1 st:Int):Option ((Unit) ⊕ (Unit)):=iterM (qe0_ n x0 x1) n st
theorem qui_ (n:Nat){rnd:Option Nat}(x0:W8)(x1 x2:Int)(o:(Int) ⊕ ((Unit) ⊕ (Unit)))(h:qe0_ n x0 x1 x2=some o):CG P rnd (fnN P 23) 0 (qx_ P 23 [false,false,true,false,true,true,true]) (qk7_ x0 x1 x2) (Sum.elim (fun s=>(.normal,qk7_ x0 x1 s)) (fun r=>qfm_ x0 x1 r) o):=by
 unfold qe0_ at h
 dsimp only at h
 by_cases hy1:x2<x1
 ·rw[if_pos hy1] at h
  obtain⟨hy2,h⟩:=gd h
  obtain⟨y3_,hy3,h⟩:=oB h
  obtain⟨y4_,hy4,h⟩:=oB h
  have k0:=fun {A L l} (k:PL A L l)=>zz 1 (xdT hy1) <|
   zz 8 (xk1 (x0).num (x0).off (x0).cap hy2) <|
   zz 9 (lk2 hy3 (qw_ hy2)) <|
   yy 15 (.call (C_treesoundq1 (y3_.1) (y3_.2.1) (y3_.2.2.1) (y3_.2.2.2.1) (y3_.2.2.2.2.1) (y3_.2.2.2.2.2.1) (y3_.2.2.2.2.2.2.1) (y3_.2.2.2.2.2.2.2) y4_ [] [])) <|
   ww (qzm_ n (y3_.1) (y3_.2.1) (y3_.2.2.1) (y3_.2.2.2.1) (y3_.2.2.2.2.1) (y3_.2.2.2.2.2.1) (y3_.2.2.2.2.2.2.1) (y3_.2.2.2.2.2.2.2) y4_ hy4) <|
   k
  by_cases hy5:y4_=true
  ·rw[if_pos hy5] at h
   have k5:=fun {A L l} (k:PL A L l)=>yy 16 (vf) <|
    ww (p:=(Value.bool (!y4_))=(Value.bool false)) (vBn hy5) <|
    k
   by_cases hy6:(y3_.2.1)=1
   ·rw[if_pos hy6] at h
    have k7:=fun {A L l} (k:PL A L l)=>zz 20 (xeT hy6) <|
     k
    by_cases hy7:x2 > 0
    ·rw[if_pos hy7] at h
     obtain rfl:=oI h
     exact runC2 hm (kW [2] [] 0 0) (k0 <|
      k5 <|
      k7 <|
      zz 23 (xdT hy7) <|
      ee) (by kernel_rfl)
    ·rw[if_neg hy7] at h
     obtain rfl:=oI h
     exact runC2 hm (kW [16,17,18] [] 0 0) (k0 <|
      k5 <|
      k7 <|
      zz 23 (xdF hy7) <|
      ee) (by kernel_rfl)
   ·rw[if_neg hy6] at h
    obtain rfl:=oI h
    exact runC2 hm (kW [16,17,18] [] 0 0) (k0 <|
     k5 <|
     zz 20 (xeF hy6) <|
     ee) (by kernel_rfl)
  ·rw[if_neg hy5] at h
   obtain rfl:=oI h
   exact runC2 hm (kW [2] [] 0 0) (k0 <|
    yy 16 (vt) <|
    ww (p:=(Value.bool (!y4_))=(Value.bool true)) (vBn (Bool.eq_false_iff.2 hy5)) <|
    ee) (by kernel_rfl)
 ·rw[if_neg hy1] at h
  obtain rfl:=oI h
  exact runC2 hm (kW [] [] 0 0) (zz 1 (xdF hy1) <|
   ee) (by kernel_rfl)
theorem qpz_ (n:Nat){rnd:Option Nat}(x0:W8)(x1 st:Int)(r:(Unit) ⊕ (Unit))(h:qk8_ n x0 x1 st=some r):qz4_ rnd x0 x1 st r:=
 CG.iter (b:=qx_ P 23 [false,false,true,false,true,true,true]) (by kernel_rfl) (body:=qe0_ n x0 x1) (S:=qk7_ x0 x1) (X:=qfm_ x0 x1)
  (fun s s' h=>qui_ n x0 x1 s (.inl s') h)
  (fun s r h=>qui_ n x0 x1 s (.inr r) h)
  (fun r=>by intro hx; rcases r with _ | _<;>cases hx) h
def qg8_ (n:Nat)(a0:W8):Option (Int):=
 if (((a0).l.length:Nat):Int) > 524288 then
  some 3
 else
  if (((a0).l.length:Nat):Int)=0 then
   some 2
  else
   (qh6_ n a0).bind fun c3_=>
   if c3_=true then
    match qk8_ n a0 (((a0).l.length:Nat):Int) 0 with
    | none=>none
    | some (.inl _)=>
     some 2
    | some (.inr _)=>
     some 0
   else
    some 2
theorem qnr_ (n:Nat)(a0:W8)(r:Int)(h:qg8_ n a0=some r):G_treeCheckq1 a0 r:=by
 unfold qg8_ at h
 by_cases hc1:(((a0).l.length:Nat):Int) > 524288
 ·rw[if_pos hc1] at h
  obtain rfl:=oI h
  exact runF2 hm (kW [2] [] 0 0) (zz 6 (xdT hc1) <|
   ee) (by kernel_rfl)
 ·rw[if_neg hc1] at h
  have k0:=fun {A L l} (k:PL A L l)=>zz 6 (xdF hc1) <|
   k
  by_cases hc2:(((a0).l.length:Nat):Int)=0
  ·rw[if_pos hc2] at h
   obtain rfl:=oI h
   exact runF2 hm (kW [2] [] 0 0) (k0 <|
    zz 12 (xeT hc2) <|
    ee) (by kernel_rfl)
  ·rw[if_neg hc2] at h
   obtain⟨c3_,hc3,h⟩:=oB h
   have k1:=fun {A L l} (k:PL A L l)=>zz 12 (xeF hc2) <|
    yy 15 (.call (qz3_ a0 c3_ [] [])) <|
    ww (qwy_ n a0 c3_ hc3) <|
    k
   by_cases hc4:c3_=true
   ·rw[if_pos hc4] at h
    have k4:=fun {A L l} (k:PL A L l)=>yy 16 (vf) <|
     ww (p:=(Value.bool (!c3_))=(Value.bool false)) (vBn hc4) <|
     k
    rcases hc5:qk8_ n a0 (((a0).l.length:Nat):Int) 0 with _ | (⟨⟩ | ⟨⟩)
    ·rw[hc5] at h; cases h
    ·rw[hc5] at h
     dsimp only at h
     obtain rfl:=oI h
     exact runF2 hm (kW [2] [] 0 0) (k0 <|
      k1 <|
      k4 <|
      ww (qpz_ n (rnd:=none) a0 (((a0).l.length:Nat):Int) 0 (.inl ()) hc5) <|
      ll 25 ⟨(kW [16,17,18] [] 0 0),(qfm_ a0 (((a0).l.length:Nat):Int) (.inl ())).1,(qfm_ a0 (((a0).l.length:Nat):Int) (.inl ())).2⟩ <|
      ee) (by kernel_rfl)
    ·rw[hc5] at h
     dsimp only at h
     obtain rfl:=oI h
     exact runF2 hm (kW [2] [] 0 0) (k0 <|
      k1 <|
      k4 <|
      ww (qpz_ n (rnd:=none) a0 (((a0).l.length:Nat):Int) 0 (.inr ()) hc5) <|
      ll 25 ⟨(kW [16,17,18] [] 0 0),(qfm_ a0 (((a0).l.length:Nat):Int) (.inr ())).1,(qfm_ a0 (((a0).l.length:Nat):Int) (.inr ())).2⟩ <|
      ee) (by kernel_rfl)
   ·rw[if_neg hc4] at h
    obtain rfl:=oI h
    exact runF2 hm (kW [2] [] 0 0) (k0 <|
     k1 <|
     yy 16 (vt) <|
     ww (p:=(Value.bool (!c3_))=(Value.bool true)) (vBn (Bool.eq_false_iff.2 hc4)) <|
     ee) (by kernel_rfl)

def quj_ (a0:W8):List Value:=[(wlV a0)]
def quk_ (a0:W8):AH:=⟨sB [],0,0⟩
def qul_ (a0:W8)(r:NL):Value:=match r with
 | o0=>(nlV o0)
def qo8_ (a0:W8)(r:NL):AH:=match r with
 | o0=>⟨sB [],0,0⟩
abbrev qz5_ (a0:W8)(r:NL):Prop:=Gv P (.func 24) (quj_ a0) (quk_ a0) (qul_ a0 r) (qo8_ a0 r)
abbrev qz6_ (a0:W8)(r:NL)(ins outs:BL):CallA:=⟨0,ins,qul_ a0 r,qo8_ a0 r,outs⟩
def qis_ (x1:Nat)(x2:Int)(x3:W8)(x4:Int)(x5:NL)(x6:Int)(st:List Int×Int):XSt:=match st with
 | (x0,x7)=>(sT 37 [(3,(sN 0 0 x1 x1)),(4,(i6 x2)),(16,(wlV x3)),(17,(i6 x4)),(18,(i6 x2)),(24,(nlV x5)),(25,(i6 x6)),(26,(i6 x7))],[],⟨sB [(0,(cB (iv x0) 3))],1,0⟩)
def qgf_ (x1:Nat)(x2:Int)(x3:W8)(x4:Int)(x5:NL)(x6:Int)(r:List Int):Ex×XSt:=match r with
 | z0=>(.exit 2,(sT 37 [(3,(sN 0 0 x1 x1)),(16,(wlV x3)),(17,(i6 x4)),(18,(i6 x2))],[],⟨sB [(0,(cB (iv z0) 3))],1,0⟩))
abbrev qxq_ (rnd:Option Nat)(x1:Nat)(x2:Int)(x3:W8)(x4:Int)(x5:NL)(x6:Int)(st:List Int×Int)(c:Ex×XSt):Prop:=CG P rnd (fnN P 24) 0 (qx_ P 24 [false,false,true,true,false,false,true,true,false,false,true,false,true,true,true,true]) (qis_ x1 x2 x3 x4 x5 x6 st) c
abbrev qxr_ (rd:Option Nat)(x1:Nat)(x2:Int)(x3:W8)(x4:Int)(x5:NL)(x6:Int)(st:List Int×Int)(r:List Int):Prop:=CG P rd (fnN P 24) 0 (qx_ P 24 [false,true,true,false,false,true,true,false,false,true,false,true,true,true,true]) (qis_ x1 x2 x3 x4 x5 x6 st) (qgf_ x1 x2 x3 x4 x5 x6 r)
def qdf_ (n x1:Nat)(x2:Int)(x3:W8)(x4:Int)(x5:NL)(x6:Int)(st:List Int×Int):Option ((List Int×Int) ⊕ (List Int)):=match st with
 | (x0,x7)=>
  if x7<x6 then
   if 0≤x7∧x7<(((x5).l.length:Nat):Int) then
    if (x7).toNat<((x5).l).length then
     ((some (((x5).l).getD (x7).toNat 0))).bind fun y4_=>
     if 0≤y4_∧y4_<((x1:Nat):Int) then
      if (y4_).toNat<(x0).length then
       some (.inl (((x0).set (y4_).toNat x2),(w64 (x7+1))))
      else none
     else none
    else none
   else none
  else
   some (.inr x0)
def qit_ (n x1:Nat)(x2:Int)(x3:W8)(x4:Int)(x5:NL)(x6:Int)(st:List Int×Int):Option (List Int):=iterM (qdf_ n x1 x2 x3 x4 x5 x6) n st
theorem qrn_ (n:Nat){rnd:Option Nat}(x1:Nat)(x2:Int)(x3:W8)(x4:Int)(x5:NL)(x6:Int)(st:List Int×Int)(o:(List Int×Int) ⊕ (List Int))(h:qdf_ n x1 x2 x3 x4 x5 x6 st=some o):qxq_ rnd x1 x2 x3 x4 x5 x6 st (Sum.elim (fun s=>(.normal,qis_ x1 x2 x3 x4 x5 x6 s)) (fun r=>qgf_ x1 x2 x3 x4 x5 x6 r) o):=by
 obtain⟨x0,x7⟩:=st
 unfold qdf_ at h
 dsimp only at h
 by_cases hy1:x7<x6
 ·rw[if_pos hy1] at h
  obtain⟨hy2,h⟩:=gd h
  obtain⟨hy3,h⟩:=gd h
  obtain⟨y4_,hy4,h⟩:=oB h
  obtain⟨hy5,h⟩:=gd h
  obtain⟨hy6,h⟩:=gd h
  obtain rfl:=oI h
  exact runC2 hm (kW [3,4,16,17,18,24,25,26] [(0,0,true)] 1 0) (zz 1 (xdT hy1) <|
   zz 7 (xk12 (Nat.add (x5).num 64) (x5).off (x5).cap hy2) <|
   zz 8 (nk13 hy4 hy3) <|
   zz 13 (xk22 0 x1 hy5) <|
   z2 14 (stI (x2) hy6) <|
   ww (qd_ ((x0).set (y4_).toNat x2) 3) <|
   ee) (by kernel_rfl)
 ·rw[if_neg hy1] at h
  obtain rfl:=oI h
  exact runC2 hm (kW [3,16,17,18] [(0,0,true)] 1 0) (zz 1 (xdF hy1) <|
   ww (qd_ x0 3) <|
   ee) (by kernel_rfl)
theorem qvb_ (n:Nat){rnd:Option Nat}(x1:Nat)(x2:Int)(x3:W8)(x4:Int)(x5:NL)(x6:Int)(st:List Int×Int)(r:List Int)(h:qit_ n x1 x2 x3 x4 x5 x6 st=some r):qxr_ rnd x1 x2 x3 x4 x5 x6 st r:=
 CG.iter (b:=qx_ P 24 [false,false,true,true,false,false,true,true,false,false,true,false,true,true,true,true]) (by kernel_rfl) (body:=qdf_ n x1 x2 x3 x4 x5 x6) (S:=qis_ x1 x2 x3 x4 x5 x6) (X:=qgf_ x1 x2 x3 x4 x5 x6)
  (fun s s' h=>qrn_ n x1 x2 x3 x4 x5 x6 s (.inl s') h)
  (fun s r h=>qrn_ n x1 x2 x3 x4 x5 x6 s (.inr r) h)
  (fun r=>by intro hx; cases hx) h
def qiu_ (x1:Nat)(x2:W8)(x3:Int)(st:List Int×Int):XSt:=match st with
 | (x0,x4)=>(sT 37 [(3,(sN 0 0 x1 x1)),(16,(wlV x2)),(17,(i6 x3)),(18,(i6 x4))],[],⟨sB [(0,(cB (iv x0) 3))],1,0⟩)
def qgg_ (x1:Nat)(x2:W8)(x3:Int)(r:List Int):Ex×XSt:=match r with
 | z0=>(.exit 0,(sT 37 [(3,(sN 0 0 x1 x1))],[],⟨sB [(0,(cB (iv z0) 3))],1,0⟩))
abbrev qxs_ (rnd:Option Nat)(x1:Nat)(x2:W8)(x3:Int)(st:List Int×Int)(c:Ex×XSt):Prop:=CG P rnd (fnN P 24) 0 (qx_ P 24 [false,false,true,false,true,true,true,true]) (qiu_ x1 x2 x3 st) c
abbrev qxt_ (rd:Option Nat)(x1:Nat)(x2:W8)(x3:Int)(st:List Int×Int)(r:List Int):Prop:=CG P rd (fnN P 24) 0 (qx_ P 24 [false,true,false,true,true,true,true]) (qiu_ x1 x2 x3 st) (qgg_ x1 x2 x3 r)
def qdg_ (n x1:Nat)(x2:W8)(x3:Int)(st:List Int×Int):Option ((List Int×Int) ⊕ (List Int)):=match st with
 | (x0,x4)=>
  if x4<x3 then
   if 0≤x4∧x4<(((x2).l.length:Nat):Int) then
    ((some (((x2).l).getD (x4).toNat (0,0,0,0,0,0,nl0,0)))).bind fun y3_=>
    (qit_ n x1 x4 x2 x3 (y3_.2.2.2.2.2.2.1) ((((y3_.2.2.2.2.2.2.1)).l.length:Nat):Int) (x0,0)).bind fun y4_=>
    some (.inl (y4_,(w64 (x4+1))))
   else none
  else
   some (.inr x0)
def qiv_ (n x1:Nat)(x2:W8)(x3:Int)(st:List Int×Int):Option (List Int):=iterM (qdg_ n x1 x2 x3) n st
theorem qro_ (n:Nat){rnd:Option Nat}(x1:Nat)(x2:W8)(x3:Int)(st:List Int×Int)(o:(List Int×Int) ⊕ (List Int))(h:qdg_ n x1 x2 x3 st=some o):qxs_ rnd x1 x2 x3 st (Sum.elim (fun s=>(.normal,qiu_ x1 x2 x3 s)) (fun r=>qgg_ x1 x2 x3 r) o):=by
 obtain⟨x0,x4⟩:=st
 unfold qdg_ at h
 dsimp only at h
 by_cases hy1:x4<x3
 ·rw[if_pos hy1] at h
  obtain⟨hy2,h⟩:=gd h
  obtain⟨y3_,hy3,h⟩:=oB h
  obtain⟨y4_,hy4,h⟩:=oB h
  obtain rfl:=oI h
  exact runC2 hm (kW [3,16,17,18] [(0,0,true)] 1 0) (zz 1 (xdT hy1) <|
   zz 8 (xk1 (x2).num (x2).off (x2).cap hy2) <|
   zz 9 (lk2 hy3 (qw_ hy2)) <|
   ww (qvb_ n (rnd:=rnd) x1 x4 x2 x3 (y3_.2.2.2.2.2.2.1) ((((y3_.2.2.2.2.2.2.1)).l.length:Nat):Int) (x0,0) y4_ hy4) <|
   ww (qd_ x0 3) <|
   ll 19 ⟨(kW [3,4,16,17,18,24,25,26] [(0,0,true)] 1 0),(qgf_ x1 x4 x2 x3 (y3_.2.2.2.2.2.2.1) ((((y3_.2.2.2.2.2.2.1)).l.length:Nat):Int) y4_).1,(qgf_ x1 x4 x2 x3 (y3_.2.2.2.2.2.2.1) ((((y3_.2.2.2.2.2.2.1)).l.length:Nat):Int) y4_).2⟩ <|
   ww (qd_ y4_ 3) <|
   ee) (by kernel_rfl)
 ·rw[if_neg hy1] at h
  obtain rfl:=oI h
  exact runC2 hm (kW [3] [(0,0,true)] 1 0) (zz 1 (xdF hy1) <|
   ww (qd_ x0 3) <|
   ee) (by kernel_rfl)
theorem qvc_ (n:Nat){rnd:Option Nat}(x1:Nat)(x2:W8)(x3:Int)(st:List Int×Int)(r:List Int)(h:qiv_ n x1 x2 x3 st=some r):qxt_ rnd x1 x2 x3 st r:=
 CG.iter (b:=qx_ P 24 [false,false,true,false,true,true,true,true]) (by kernel_rfl) (body:=qdg_ n x1 x2 x3) (S:=qiu_ x1 x2 x3) (X:=qgg_ x1 x2 x3)
  (fun s s' h=>qro_ n x1 x2 x3 s (.inl s') h)
  (fun s r h=>qro_ n x1 x2 x3 s (.inr r) h)
  (fun r=>by intro hx; cases hx) h
def qh7_ (n:Nat)(a0:W8):Option (NL):=
 (qg8_ n a0).bind fun c1_=>
 if c1_=0 then
  if 0≤(((a0).l.length:Nat):Int) then
   if ((((a0).l.length:Nat):Int)).toNat*8≤140737488355328 then
    if 0≤(0:Int)∧(0:Int)<((((((a0).l.length:Nat):Int)).toNat:Nat):Int) then
     if ((0:Int)).toNat<((List.replicate ((((a0).l.length:Nat):Int)).toNat (0:Int))).length then
      (qiv_ n (((((a0).l.length:Nat):Int)).toNat) a0 (((a0).l.length:Nat):Int) ((((List.replicate ((((a0).l.length:Nat):Int)).toNat (0:Int))).set ((0:Int)).toNat (-1:Int)),0)).bind fun c7_=>
      if (((((a0).l.length:Nat):Int)).toNat)=c7_.length then
       if hc9:c7_.length≤140737488355328 then
        some (frzL c7_ hc9)
       else none
      else none
     else none
    else none
   else none
  else none
 else
  some nl0
theorem qwz_ (n:Nat)(a0:W8)(r:NL)(h:qh7_ n a0=some r):qz5_ a0 r:=by
 unfold qh7_ at h
 obtain⟨c1_,hc1,h⟩:=oB h
 have k0:=fun {A L l} (k:PL A L l)=>yy 5 (.call (qs4_ a0 c1_ [] [])) <|
  ww (qnr_ n a0 c1_ hc1) <|
  k
 by_cases hc2:c1_=0
 ·rw[if_pos hc2] at h
  obtain⟨hc3,h⟩:=gd h
  obtain⟨hc4,h⟩:=gd h
  obtain⟨hc5,h⟩:=gd h
  obtain⟨hc6,h⟩:=gd h
  obtain⟨c7_,hc7,h⟩:=oB h
  obtain⟨hc8,h⟩:=gd h
  obtain⟨hc9,h⟩:=gdD h
  obtain rfl:=oI h
  have k0_:Gv P (.func 24) (quj_ a0) (quk_ a0) (Value.slice (some ⟨Nat.add (2*cod c7_+1) 64,0,some 1⟩) (((((a0).l.length:Nat):Int)).toNat) (Nat.add big (((((a0).l.length:Nat):Int)).toNat))) (qo8_ a0 (frzL c7_ hc9)):=runF2 hm ⟨[2],[],0,0,[(0,Nat.add (2*cod c7_+1) 64)],true,[],[],[]⟩ (k0 <|
  zz 6 (xnF hc2) <|
  yy 11 (.mk ((((a0).l.length:Nat):Int)).toNat (iv (List.replicate ((((a0).l.length:Nat):Int)).toNat (0:Int)))) <|
  ww (p:=natOf (i6 (((a0).l.length:Nat):Int))=some ((((a0).l.length:Nat):Int)).toNat) (qgl_ hc3) <|
  ww (p:=natOf (i6 (((a0).l.length:Nat):Int))=some ((((a0).l.length:Nat):Int)).toNat) (qgl_ hc3) <|
  ww (p:=fits ((((a0).l.length:Nat):Int)).toNat 8=true) (ql8_ hc4 (by omega)) <|
  ww (p:=isZ8 [(i6 (0:Int))]=false) (rfl) <|
  ww (p:=reps [(i6 (0:Int))] ((((a0).l.length:Nat):Int)).toNat=(iv (List.replicate ((((a0).l.length:Nat):Int)).toNat (0:Int)))) (reps_iv _) <|
  zz 15 (xk22 0 ((((a0).l.length:Nat):Int)).toNat hc5) <|
  z2 16 (stI ((-1:Int)) hc6) <|
  ww (qvc_ n (rnd:=none) (((((a0).l.length:Nat):Int)).toNat) a0 (((a0).l.length:Nat):Int) ((((List.replicate ((((a0).l.length:Nat):Int)).toNat (0:Int))).set ((0:Int)).toNat (-1:Int)),0) c7_ hc7) <|
  ww (qd_ (((List.replicate ((((a0).l.length:Nat):Int)).toNat (0:Int))).set ((0:Int)).toNat (-1:Int)) 3) <|
  ll 23 ⟨(kW [3,16,17,18] [(0,0,true)] 1 0),(qgg_ (((((a0).l.length:Nat):Int)).toNat) a0 (((a0).l.length:Nat):Int) c7_).1,(qgg_ (((((a0).l.length:Nat):Int)).toNat) a0 (((a0).l.length:Nat):Int) c7_).2⟩ <|
  ww (frz_ok qip_ qsp_ c7_) <|
  ee) (by kernel_rfl)
  have k1_:=gvLen (fn:=fun m_=>(Value.slice (some ⟨Nat.add (2*cod c7_+1) 64,0,some 1⟩) m_ (Nat.add big m_))) hc8 k0_
  exact k1_
 ·rw[if_neg hc2] at h
  obtain rfl:=oI h
  exact runF2 hm ⟨[2],[],0,0,[],true,[],[],[2]⟩ (k0 <|
   zz 6 (xnT hc2) <|
   ee) (by kernel_rfl)

def qjz_ (a0:W8)(a1:NL)(a2:WL rw_iLii)(a3:NL)(a4 a5:Int)(r:Unit):Value:=match r with
 | _=>(Value.func (.func 45) #[] #[(pN 1 0)])
def qj0_ (a0:W8)(a1:NL)(a2:WL rw_iLii)(a3:NL)(a4 a5:Int)(r:Unit):AH:=match r with
 | _=>⟨sB [(0,(cB [(wlV a0),(nlV a1),(wlV a2),(nlV a3),(i6 a4),(i6 a5)] 66)),(1,(cB [(pN 0 0)] 107))],2,1⟩
abbrev qq2_ (a0:W8)(a1:NL)(a2:WL rw_iLii)(a3:NL)(a4 a5:Int)(r:Unit):Prop:=Gv P (.func 26) [(pN 0 0)] ⟨sB [(0,(cB [(wlV a0),(nlV a1),(wlV a2),(nlV a3),(i6 a4),(i6 a5)] 66))],1,1⟩ (qjz_ a0 a1 a2 a3 a4 a5 r) (qj0_ a0 a1 a2 a3 a4 a5 r)
abbrev qq3_ (a0:W8)(a1:NL)(a2:WL rw_iLii)(a3:NL)(a4 a5:Int)(r:Unit)(ins outs:BL):CallA:=⟨1,ins,qjz_ a0 a1 a2 a3 a4 a5 r,qj0_ a0 a1 a2 a3 a4 a5 r,outs⟩
def qew_ (n:Nat)(a0:W8)(a1:NL)(a2:WL rw_iLii)(a3:NL)(a4 a5:Int):Option (Unit):=
 some ()
theorem qn9_ (n:Nat)(a0:W8)(a1:NL)(a2:WL rw_iLii)(a3:NL)(a4 a5:Int)(r:Unit)(h:qew_ n a0 a1 a2 a3 a4 a5=some r):qq2_ a0 a1 a2 a3 a4 a5 r:=by
 unfold qew_ at h
 obtain rfl:=oI h
 exact runF2 hm (kW [2] (iD 2) 2 1) (ee) (by kernel_rfl)

def qv0_ (a0:W8)(a1:Int)(r:Unit):Value:=match r with
 | _=>(Value.func (.func 101) #[] #[(pN 0 0),(pN 1 0)])
def qv1_ (a0:W8)(a1:Int)(r:Unit):AH:=match r with
 | _=>⟨sB [(0,(cB [(wlV a0)] 22)),(1,(cB [(i6 a1)] 3))],2,0⟩
abbrev q1w_ (a0:W8)(a1:Int)(r:Unit):Prop:=Gv P (.func 72) [(wlV a0),(i6 a1)] ⟨sB [],0,0⟩ (qv0_ a0 a1 r) (qv1_ a0 a1 r)
abbrev q1x_ (a0:W8)(a1:Int)(r:Unit)(ins outs:BL):CallA:=⟨0,ins,qv0_ a0 a1 r,qv1_ a0 a1 r,outs⟩
def qmy_ (n:Nat)(a0:W8)(a1:Int):Option (Unit):=
 some ()
theorem qxu_ (n:Nat)(a0:W8)(a1:Int)(r:Unit)(h:qmy_ n a0 a1=some r):q1w_ a0 a1 r:=by
 unfold qmy_ at h
 obtain rfl:=oI h
 exact runF2 hm (kW [4] (iD 2) 2 0) (ee) (by kernel_rfl)

def qv2_ (a0 a1 a2 a3 a4 a5:Int)(a6:NL)(a7:Int)(r:Bool):Value:=match r with
 | o0=>(bO o0)
def qv3_ (a0 a1 a2 a3 a4 a5:Int)(a6:NL)(a7:Int)(r:Bool):AH:=match r with
 | o0=>⟨sB [],0,0⟩
abbrev q1y_ (a0 a1 a2 a3 a4 a5:Int)(a6:NL)(a7:Int)(r:Bool):Prop:=Gv P (.func 73) [(Value.agg #[(i6 a0),(i6 a1),(i6 a2),(i6 a3),(i6 a4),(i6 a5),(nlV a6),(Value.int .u64 a7)])] ⟨sB [],0,0⟩ (qv2_ a0 a1 a2 a3 a4 a5 a6 a7 r) (qv3_ a0 a1 a2 a3 a4 a5 a6 a7 r)
abbrev qv4_ (a0 a1 a2 a3 a4 a5:Int)(a6:NL)(a7:Int)(r:Bool)(ins outs:BL):CallA:=⟨0,ins,qv2_ a0 a1 a2 a3 a4 a5 a6 a7 r,qv3_ a0 a1 a2 a3 a4 a5 a6 a7 r,outs⟩
def qhf_ (n:Nat)(a0 a1 a2 a3 a4 a5:Int)(a6:NL)(a7:Int):Option (Bool):=
 if a1=1 then
  some true
 else
  if a1=2 then
   some true
  else
   some false
theorem qrp_ (n:Nat)(a0 a1 a2 a3 a4 a5:Int)(a6:NL)(a7:Int)(r:Bool)(h:qhf_ n a0 a1 a2 a3 a4 a5 a6 a7=some r):q1y_ a0 a1 a2 a3 a4 a5 a6 a7 r:=by
 unfold qhf_ at h
 by_cases hc1:a1=1
 ·rw[if_pos hc1] at h
  obtain rfl:=oI h
  exact runF2 hm (kW [2] [] 0 0) (zz 6 (xeT hc1) <|
   ee) (by kernel_rfl)
 ·rw[if_neg hc1] at h
  have k0:=fun {A L l} (k:PL A L l)=>zz 6 (xeF hc1) <|
   k
  by_cases hc2:a1=2
  ·rw[if_pos hc2] at h
   obtain rfl:=oI h
   exact runF2 hm (kW [2] [] 0 0) (k0 <|
    zz 10 (xeT hc2) <|
    ee) (by kernel_rfl)
  ·rw[if_neg hc2] at h
   obtain rfl:=oI h
   exact runF2 hm (kW [2] [] 0 0) (k0 <|
    zz 10 (xeF hc2) <|
    ee) (by kernel_rfl)

def qmd_ (a0 a1:W8)(a2 a3:Int)(r:List Int):Value:=match r with
 | o0=>(bO true)
def qme_ (a0 a1:W8)(a2 a3:Int)(r:List Int):AH:=match r with
 | o0=>⟨sB [(0,(some (rblk P 47 [false,true,false,true,true,true] .ready none [(1,(pN 2 0)),(3,(pN 3 0)),(9,(Value.func (.func 101) #[] #[(pN 4 0),(pN 5 0)]))] 1))),(1,(some (.marks true))),(2,(cB [(wlV a0)] 22)),(3,(cB [(slN o0 6)] 28)),(4,(cB [(wlV a1)] 22)),(5,(cB [(i6 a2)] 3)),(6,(nblk o0 3))],7,0⟩
abbrev qtu_ (a0 a1:W8)(a2 a3:Int)(r:List Int):Prop:=Gv P (.yield 0) [(i6 a3)] ⟨sB [(0,(some (rblk P 47 [false,true,false,true,true,true] .ready none [(1,(pN 2 0)),(3,(pN 3 0)),(9,(Value.func (.func 101) #[] #[(pN 4 0),(pN 5 0)]))] 1))),(1,(some (.marks true))),(2,(cB [(wlV a0)] 22)),(3,(cB [(Value.slice none 0 0)] 28)),(4,(cB [(wlV a1)] 22)),(5,(cB [(i6 a2)] 3))],6,6⟩ (qmd_ a0 a1 a2 a3 r) (qme_ a0 a1 a2 a3 r)
abbrev qmf_ (a0 a1:W8)(a2 a3:Int)(r:List Int)(ins outs:BL):CallA:=⟨6,ins,qmd_ a0 a1 a2 a3 r,qme_ a0 a1 a2 a3 r,outs⟩
def qeg_ (n:Nat)(a0 a1:W8)(a2 a3:Int):Option (List Int):=
 if 0≤a3∧a3<(((a0).l.length:Nat):Int) then
  ((some (((a0).l).getD (a3).toNat (0,0,0,0,0,0,nl0,0)))).bind fun c2_=>
  (qhf_ n (c2_.1) (c2_.2.1) (c2_.2.2.1) (c2_.2.2.2.1) (c2_.2.2.2.2.1) (c2_.2.2.2.2.2.1) (c2_.2.2.2.2.2.2.1) (c2_.2.2.2.2.2.2.2)).bind fun c3_=>
  if c3_=true then
   some ([]:List Int)
  else
   some [a3]
 else none
theorem qj1_ (n:Nat)(a0 a1:W8)(a2 a3:Int)(r:List Int)(h:qeg_ n a0 a1 a2 a3=some r):qtu_ a0 a1 a2 a3 r:=by
 unfold qeg_ at h
 obtain⟨hc1,h⟩:=gd h
 obtain⟨c2_,hc2,h⟩:=oB h
 obtain⟨c3_,hc3,h⟩:=oB h
 have k0:=fun {A L l} (k:PL A L l)=>zz 4 (xk1 (a0).num (a0).off (a0).cap hc1) <|
  zz 5 (lk2 hc2 (qw_ hc1)) <|
  yy 6 (.call (qv4_ (c2_.1) (c2_.2.1) (c2_.2.2.1) (c2_.2.2.2.1) (c2_.2.2.2.2.1) (c2_.2.2.2.2.2.1) (c2_.2.2.2.2.2.2.1) (c2_.2.2.2.2.2.2.2) c3_ [] [])) <|
  ww (qrp_ n (c2_.1) (c2_.2.1) (c2_.2.2.1) (c2_.2.2.2.1) (c2_.2.2.2.2.1) (c2_.2.2.2.2.2.1) (c2_.2.2.2.2.2.2.1) (c2_.2.2.2.2.2.2.2) c3_ hc3) <|
  k
 by_cases hc4:c3_=true
 ·rw[if_pos hc4] at h
  obtain rfl:=oI h
  exact runY2 hm (kW [] (iD 6) 7 0) (ee) (k0 <|
   yy 7 (vf) <|
   ww (p:=(Value.bool (!c3_))=(Value.bool false)) (vBn hc4) <|
   ee) (by kernel_rfl)
 ·rw[if_neg hc4] at h
  obtain rfl:=oI h
  exact runY2 hm (kW [] [(0,0,false),(1,1,false),(2,2,false),(3,3,false),(4,4,false),(5,5,false),(6,7,false)] 7 0) (ee) (k0 <|
   yy 7 (vt) <|
   ww (p:=(Value.bool (!c3_))=(Value.bool true)) (vBn (Bool.eq_false_iff.2 hc4)) <|
   ee) (by kernel_rfl)

def qmg_ (a0:W8)(a1:List Int)(a2:W8)(a3 a4:Int)(r:List Int):Value:=match r with
 | o0=>(bO true)
def qmh_ (a0:W8)(a1:List Int)(a2:W8)(a3 a4:Int)(r:List Int):AH:=match r with
 | o0=>⟨sB [(0,(some (rblk P 47 [false,true,false,true,true,true] .ready none [(1,(pN 2 0)),(3,(pN 3 0)),(9,(Value.func (.func 101) #[] #[(pN 5 0),(pN 6 0)]))] 1))),(1,(some (.marks true))),(2,(cB [(wlV a0)] 22)),(3,(cB [(sN 7 0 (o0).length (Nat.add big 1))] 28)),(5,(cB [(wlV a2)] 22)),(6,(cB [(i6 a3)] 3)),(7,(cB (iv o0) 3))],8,0⟩
abbrev qtv_ (a0:W8)(a1:List Int)(a2:W8)(a3 a4:Int)(r:List Int):Prop:=Gv P (.yield 0) [(i6 a4)] ⟨sB [(0,(some (rblk P 47 [false,true,false,true,true,true] .ready none [(1,(pN 2 0)),(3,(pN 3 0)),(9,(Value.func (.func 101) #[] #[(pN 5 0),(pN 6 0)]))] 1))),(1,(some (.marks true))),(2,(cB [(wlV a0)] 22)),(3,(cB [(sN 4 0 (a1).length (Nat.add big 1))] 28)),(4,(cB (iv a1) 3)),(5,(cB [(wlV a2)] 22)),(6,(cB [(i6 a3)] 3))],7,7⟩ (qmg_ a0 a1 a2 a3 a4 r) (qmh_ a0 a1 a2 a3 a4 r)
abbrev qtw_ (a0:W8)(a1:List Int)(a2:W8)(a3 a4:Int)(r:List Int)(ins outs:BL):CallA:=⟨7,ins,qmg_ a0 a1 a2 a3 a4 r,qmh_ a0 a1 a2 a3 a4 r,outs⟩
def qeh_ (n:Nat)(a0:W8)(a1:List Int)(a2:W8)(a3 a4:Int):Option (List Int):=
 if 0≤a4∧a4<(((a0).l.length:Nat):Int) then
  ((some (((a0).l).getD (a4).toNat (0,0,0,0,0,0,nl0,0)))).bind fun c2_=>
  (qhf_ n (c2_.1) (c2_.2.1) (c2_.2.2.1) (c2_.2.2.2.1) (c2_.2.2.2.2.1) (c2_.2.2.2.2.2.1) (c2_.2.2.2.2.2.2.1) (c2_.2.2.2.2.2.2.2)).bind fun c3_=>
  if c3_=true then
   some a1
  else
   if ((a1).length+1)*8≤140737488355328 then
    some (a1 ++ [a4])
   else none
 else none
theorem qq4_ (n:Nat)(a0:W8)(a1:List Int)(a2:W8)(a3 a4:Int)(r:List Int)(h:qeh_ n a0 a1 a2 a3 a4=some r):qtv_ a0 a1 a2 a3 a4 r:=by
 unfold qeh_ at h
 obtain⟨hc1,h⟩:=gd h
 obtain⟨c2_,hc2,h⟩:=oB h
 obtain⟨c3_,hc3,h⟩:=oB h
 have k0:=fun {A L l} (k:PL A L l)=>zz 4 (xk1 (a0).num (a0).off (a0).cap hc1) <|
  zz 5 (lk2 hc2 (qw_ hc1)) <|
  yy 6 (.call (qv4_ (c2_.1) (c2_.2.1) (c2_.2.2.1) (c2_.2.2.2.1) (c2_.2.2.2.2.1) (c2_.2.2.2.2.2.1) (c2_.2.2.2.2.2.2.1) (c2_.2.2.2.2.2.2.2) c3_ [] [])) <|
  ww (qrp_ n (c2_.1) (c2_.2.1) (c2_.2.2.1) (c2_.2.2.2.1) (c2_.2.2.2.2.1) (c2_.2.2.2.2.2.1) (c2_.2.2.2.2.2.2.1) (c2_.2.2.2.2.2.2.2) c3_ hc3) <|
  k
 by_cases hc4:c3_=true
 ·rw[if_pos hc4] at h
  obtain rfl:=oI h
  exact runY2 hm (kW [] [(0,0,false),(1,1,false),(2,2,false),(3,3,false),(5,5,false),(6,6,false),(7,4,true)] 8 0) (ee) (k0 <|
   yy 7 (vf) <|
   ww (p:=(Value.bool (!c3_))=(Value.bool false)) (vBn hc4) <|
   ww (qd_ a1 3) <|
   ee) (by kernel_rfl)
 ·rw[if_neg hc4] at h
  obtain⟨hc5,h⟩:=gd h
  obtain rfl:=oI h
  exact runY2 hm (kW [] [(0,0,false),(1,1,false),(2,2,false),(3,3,false),(5,5,false),(6,6,false),(7,8,true)] 8 0) (ee) (k0 <|
   yy 7 (vt) <|
   ww (p:=(Value.bool (!c3_))=(Value.bool true)) (vBn (Bool.eq_false_iff.2 hc4)) <|
   yy 12 (.app ⟨none,iv a1,(iv (a1 ++ [a4])),((a1 ++ [a4])).length,false⟩) <|
   ww (p:=0<1) ((by decide)) <|
   ww (p:=rdT (layT (iv a1)) (Nat.mul (a1).length 1) 0=some (iv a1)) (iv_rd _) <|
   ww (p:=fits (Nat.add (a1).length 1) 8=true) (ql8_ hc5 (by have:=hc5; show (_:Nat)+_≤_; omega)) <|
   ww (p:=qbn_ [(i6 a4)]=true) (rfl) <|
   ww (p:=qbn_ (iv a1)=true) (iv_cells _) <|
   ww (p:=iv a1 ++ [(i6 a4)]=(iv (a1 ++ [a4]))) (by simp[iv]) <|
   ww (p:=Nat.add (a1).length 1=((a1 ++ [a4])).length) (by simp) <|
   ww (qd_ (a1 ++ [a4]) 3) <|
   ee) (by kernel_rfl)

def qlw_ (a0:W8)(a1:Int)(a2:W8)(a3:List Int)(a4:W8)(a5:Int):List Value:=[(wlV a0),(i6 a1),(Value.func (.yield 0) #[] #[])]
def qlx_ (a0:W8)(a1:Int)(a2:W8)(a3:List Int)(a4:W8)(a5:Int):AH:=⟨sB [(0,(some (rblk P 47 [false,true,false,true,true,true] .ready none [(1,(pN 2 0)),(3,(pN 3 0)),(9,(Value.func (.func 101) #[] #[(pN 5 0),(pN 6 0)]))] 1))),(1,(some (.marks true))),(2,(cB [(wlV a2)] 22)),(3,(cB [(sN 4 0 (a3).length (Nat.add big 1))] 28)),(4,(cB (iv a3) 3)),(5,(cB [(wlV a4)] 22)),(6,(cB [(i6 a5)] 3))],7,7⟩
def qi5_ (a0:W8)(a1:Int)(a2:W8)(a3:List Int)(a4:W8)(a5:Int)(r:List Int):Value:=match r with
 | o0=>(bO true)
def qi6_ (a0:W8)(a1:Int)(a2:W8)(a3:List Int)(a4:W8)(a5:Int)(r:List Int):AH:=match r with
 | o0=>⟨sB [(0,(some (rblk P 47 [false,true,false,true,true,true] .ready none [(1,(pN 2 0)),(3,(pN 3 0)),(9,(Value.func (.func 101) #[] #[(pN 5 0),(pN 6 0)]))] 1))),(1,(some (.marks true))),(2,(cB [(wlV a2)] 22)),(3,(cB [(sN 7 0 (o0).length (Nat.add big 1))] 28)),(5,(cB [(wlV a4)] 22)),(6,(cB [(i6 a5)] 3)),(7,(cB (iv o0) 3))],8,0⟩
abbrev G_treevisitq2 (a0:W8)(a1:Int)(a2:W8)(a3:List Int)(a4:W8)(a5:Int)(r:List Int):Prop:=Gv P (.func 102) (qlw_ a0 a1 a2 a3 a4 a5) (qlx_ a0 a1 a2 a3 a4 a5) (qi5_ a0 a1 a2 a3 a4 a5 r) (qi6_ a0 a1 a2 a3 a4 a5 r)
abbrev qxj_ (a0:W8)(a1:Int)(a2:W8)(a3:List Int)(a4:W8)(a5:Int)(r:List Int)(ins outs:BL):CallA:=⟨7,ins,qi5_ a0 a1 a2 a3 a4 a5 r,qi6_ a0 a1 a2 a3 a4 a5 r,outs⟩
def qk9_ (x0 x2:W8)(x3:Int)(x4:W8)(x5:NL)(x6:Int)(st:List Int×Int):XSt:=match st with
 | (x1,x7)=>(sT 29 [(0,(wlV x4)),(2,(Value.func (.yield 0) #[] #[])),(17,(nlV x5)),(18,(i6 x6)),(19,(i6 x7))],[],⟨sB [(0,(some (rblk P 47 [false,true,false,true,true,true] .ready none [(1,(pN 2 0)),(3,(pN 3 0)),(9,(Value.func (.func 101) #[] #[(pN 5 0),(pN 6 0)]))] 1))),(1,(some (.marks true))),(2,(cB [(wlV x0)] 22)),(3,(cB [(sN 7 0 (x1).length (Nat.add big 1))] 28)),(5,(cB [(wlV x2)] 22)),(6,(cB [(i6 x3)] 3)),(7,(cB (iv x1) 3))],8,0⟩)
def qh8_ (x0 x2:W8)(x3:Int)(x4:W8)(x5:NL)(x6:Int)(r:List Int):Ex×XSt:=match r with
 | z0=>(.exit 0,(sT 29 [],[],⟨sB [(0,(some (rblk P 47 [false,true,false,true,true,true] .ready none [(1,(pN 2 0)),(3,(pN 3 0)),(9,(Value.func (.func 101) #[] #[(pN 5 0),(pN 6 0)]))] 1))),(1,(some (.marks true))),(2,(cB [(wlV x0)] 22)),(3,(cB [(sN 7 0 (z0).length (Nat.add big 1))] 28)),(5,(cB [(wlV x2)] 22)),(6,(cB [(i6 x3)] 3)),(7,(cB (iv z0) 3))],8,0⟩))
abbrev qz7_ (rnd:Option Nat)(x0 x2:W8)(x3:Int)(x4:W8)(x5:NL)(x6:Int)(st:List Int×Int)(c:Ex×XSt):Prop:=CG P rnd (fnN P 102) 7 (qx_ P 102 [false,false,true,false,true,true]) (qk9_ x0 x2 x3 x4 x5 x6 st) c
abbrev qum_ (rd:Option Nat)(x0 x2:W8)(x3:Int)(x4:W8)(x5:NL)(x6:Int)(st:List Int×Int)(r:List Int):Prop:=CG P rd (fnN P 102) 7 (qx_ P 102 [false,true,false,true,true]) (qk9_ x0 x2 x3 x4 x5 x6 st) (qh8_ x0 x2 x3 x4 x5 x6 r)
def qc3_ (rec_treevisitq2:(W8)→(Int)→(W8)→(List Int)→(W8)→(Int)→Option (List Int))(n:Nat)(x0 x2:W8)(x3:Int)(x4:W8)(x5:NL)(x6:Int)(st:List Int×Int):Option ((List Int×Int) ⊕ (List Int)):=match st with
 | (x1,x7)=>
  if x7<x6 then
   if 0≤x7∧x7<(((x5).l.length:Nat):Int) then
    if (x7).toNat<((x5).l).length then
     ((some (((x5).l).getD (x7).toNat 0))).bind fun y4_=>
     (rec_treevisitq2 x4 y4_ x0 x1 x2 x3).bind fun y5_=>
     some (.inl (y5_,(w64 (x7+1))))
    else none
   else none
  else
   some (.inr x1)
def qla_ (rec_treevisitq2:(W8)→(Int)→(W8)→(List Int)→(W8)→(Int)→Option (List Int))(n:Nat)(x0 x2:W8)(x3:Int)(x4:W8)(x5:NL)(x6:Int)(st:List Int×Int):Option (List Int):=iterM (qc3_ rec_treevisitq2 n x0 x2 x3 x4 x5 x6) n st
theorem qun_ (rec_treevisitq2:(W8)→(Int)→(W8)→(List Int)→(W8)→(Int)→Option (List Int))(hrec_treevisitq2:∀ (a0:W8) (a1:Int) (a2:W8) (a3:List Int) (a4:W8) (a5:Int) (r:List Int),rec_treevisitq2 a0 a1 a2 a3 a4 a5=some r→Gv P (.func 102) (qlw_ a0 a1 a2 a3 a4 a5) (qlx_ a0 a1 a2 a3 a4 a5) (qi5_ a0 a1 a2 a3 a4 a5 r) (qi6_ a0 a1 a2 a3 a4 a5 r))(n:Nat){rnd:Option Nat}(x0 x2:W8)(x3:Int)(x4:W8)(x5:NL)(x6:Int)(st:List Int×Int)(o:(List Int×Int) ⊕ (List Int))(h:qc3_ rec_treevisitq2 n x0 x2 x3 x4 x5 x6 st=some o):qz7_ rnd x0 x2 x3 x4 x5 x6 st (Sum.elim (fun s=>(.normal,qk9_ x0 x2 x3 x4 x5 x6 s)) (fun r=>qh8_ x0 x2 x3 x4 x5 x6 r) o):=by
 obtain⟨x1,x7⟩:=st
 unfold qc3_ at h
 dsimp only at h
 by_cases hy1:x7<x6
 ·rw[if_pos hy1] at h
  obtain⟨hy2,h⟩:=gd h
  obtain⟨hy3,h⟩:=gd h
  obtain⟨y4_,hy4,h⟩:=oB h
  obtain⟨y5_,hy5,h⟩:=oB h
  obtain rfl:=oI h
  exact runC2 hm (kW [0,2,17,18,19] [(0,0,false),(1,1,false),(2,2,false),(3,3,false),(5,5,false),(6,6,false),(7,8,true)] 8 0) (zz 1 (xdT hy1) <|
   zz 7 (xk12 (Nat.add (x5).num 64) (x5).off (x5).cap hy2) <|
   zz 8 (nk13 hy4 hy3) <|
   yy 14 (.call (qxj_ x4 y4_ x0 x1 x2 x3 y5_ [(0,0,false),(1,1,false),(2,2,false),(3,3,false),(4,7,true),(5,5,false),(6,6,false)] [(0,0,false),(1,1,false),(2,2,false),(3,3,false),(5,5,false),(6,6,false),(8,7,true)])) <|
   ww (hrec_treevisitq2 x4 y4_ x0 x1 x2 x3 y5_ hy5) <|
   ww (qd_ x1 3) <|
   ww (qd_ y5_ 3) <|
   ww (qd_ y5_ 3) <|
   ee) (by kernel_rfl)
 ·rw[if_neg hy1] at h
  obtain rfl:=oI h
  exact runC2 hm (kW [] [(0,0,false),(1,1,false),(2,2,false),(3,3,false),(5,5,false),(6,6,false),(7,7,true)] 8 0) (zz 1 (xdF hy1) <|
   ww (qd_ x1 3) <|
   ee) (by kernel_rfl)
theorem qw0_ (rec_treevisitq2:(W8)→(Int)→(W8)→(List Int)→(W8)→(Int)→Option (List Int))(hrec_treevisitq2:∀ (a0:W8) (a1:Int) (a2:W8) (a3:List Int) (a4:W8) (a5:Int) (r:List Int),rec_treevisitq2 a0 a1 a2 a3 a4 a5=some r→Gv P (.func 102) (qlw_ a0 a1 a2 a3 a4 a5) (qlx_ a0 a1 a2 a3 a4 a5) (qi5_ a0 a1 a2 a3 a4 a5 r) (qi6_ a0 a1 a2 a3 a4 a5 r))(n:Nat){rnd:Option Nat}(x0 x2:W8)(x3:Int)(x4:W8)(x5:NL)(x6:Int)(st:List Int×Int)(r:List Int)(h:qla_ rec_treevisitq2 n x0 x2 x3 x4 x5 x6 st=some r):qum_ rnd x0 x2 x3 x4 x5 x6 st r:=
 CG.iter (b:=qx_ P 102 [false,false,true,false,true,true]) (by kernel_rfl) (body:=qc3_ rec_treevisitq2 n x0 x2 x3 x4 x5 x6) (S:=qk9_ x0 x2 x3 x4 x5 x6) (X:=qh8_ x0 x2 x3 x4 x5 x6)
  (fun s s' h=>qun_ rec_treevisitq2 hrec_treevisitq2 n x0 x2 x3 x4 x5 x6 s (.inl s') h)
  (fun s r h=>qun_ rec_treevisitq2 hrec_treevisitq2 n x0 x2 x3 x4 x5 x6 s (.inr r) h)
  (fun r=>by intro hx; cases hx) h
def qg9_ (rec_treevisitq2:(W8)→(Int)→(W8)→(List Int)→(W8)→(Int)→Option (List Int))(n:Nat)(a0:W8)(a1:Int)(a2:W8)(a3:List Int)(a4:W8)(a5:Int):Option (List Int):=
 (qeh_ n a2 a3 a4 a5 a1).bind fun c1_=>
 if 0≤a1∧a1<(((a0).l.length:Nat):Int) then
  ((some (((a0).l).getD (a1).toNat (0,0,0,0,0,0,nl0,0)))).bind fun c3_=>
  (qla_ rec_treevisitq2 n a2 a4 a5 a0 (c3_.2.2.2.2.2.2.1) ((((c3_.2.2.2.2.2.2.1)).l.length:Nat):Int) (c1_,0)).bind fun c4_=>
  some c4_
 else none
theorem qzn_ (rec_treevisitq2:(W8)→(Int)→(W8)→(List Int)→(W8)→(Int)→Option (List Int))(hrec_treevisitq2:∀ (a0:W8) (a1:Int) (a2:W8) (a3:List Int) (a4:W8) (a5:Int) (r:List Int),rec_treevisitq2 a0 a1 a2 a3 a4 a5=some r→Gv P (.func 102) (qlw_ a0 a1 a2 a3 a4 a5) (qlx_ a0 a1 a2 a3 a4 a5) (qi5_ a0 a1 a2 a3 a4 a5 r) (qi6_ a0 a1 a2 a3 a4 a5 r))(n:Nat)(a0:W8)(a1:Int)(a2:W8)(a3:List Int)(a4:W8)(a5:Int)(r:List Int)(h:qg9_ rec_treevisitq2 n a0 a1 a2 a3 a4 a5=some r):G_treevisitq2 a0 a1 a2 a3 a4 a5 r:=by
 unfold qg9_ at h
 obtain⟨c1_,hc1,h⟩:=oB h
 obtain⟨hc2,h⟩:=gd h
 obtain⟨c3_,hc3,h⟩:=oB h
 obtain⟨c4_,hc4,h⟩:=oB h
 obtain rfl:=oI h
 exact runF2 hm (kW [6] [(0,0,false),(1,1,false),(2,2,false),(3,3,false),(5,5,false),(6,6,false),(7,7,true)] 8 0) (yy 6 (.call (qtw_ a2 a3 a4 a5 a1 c1_ [(0,0,false),(1,1,false),(2,2,false),(3,3,false),(4,4,true),(5,5,false),(6,6,false)] [(0,0,false),(1,1,false),(2,2,false),(3,3,false),(5,5,false),(6,6,false),(7,7,true)])) <|
  ww (qq4_ n a2 a3 a4 a5 a1 c1_ hc1) <|
  ww (qd_ a3 3) <|
  ww (qd_ c1_ 3) <|
  zz 13 (xk1 (a0).num (a0).off (a0).cap hc2) <|
  zz 14 (fk10 (a0).num (Nat.add (a0).off ((a1).toNat*8))) <|
  zz 15 (lk11 hc3 (qw_ hc2)) <|
  ww (p:=qum_ none a2 a4 a5 a0 (c3_.2.2.2.2.2.2.1) ((((c3_.2.2.2.2.2.2.1)).l.length:Nat):Int) (c1_,0) c4_) (qw0_ rec_treevisitq2 hrec_treevisitq2 n a2 a4 a5 a0 (c3_.2.2.2.2.2.2.1) ((((c3_.2.2.2.2.2.2.1)).l.length:Nat):Int) (c1_,0) c4_ hc4) <|
  ww (qd_ c1_ 3) <|
  ll 19 ⟨(kW [0,2,17,18,19] [(0,0,false),(1,1,false),(2,2,false),(3,3,false),(5,5,false),(6,6,false),(7,7,true)] 8 0),(qh8_ a2 a4 a5 a0 (c3_.2.2.2.2.2.2.1) ((((c3_.2.2.2.2.2.2.1)).l.length:Nat):Int) c4_).1,(qh8_ a2 a4 a5 a0 (c3_.2.2.2.2.2.2.1) ((((c3_.2.2.2.2.2.2.1)).l.length:Nat):Int) c4_).2⟩ <|
  ww (qd_ c4_ 3) <|
  ee) (by kernel_rfl)
def qdh_:Nat→(W8)→(Int)→(W8)→(List Int)→(W8)→(Int)→Option (List Int)
 | 0=>fun _ _ _ _ _ _=>none
 | n+1=>fun a0 a1 a2 a3 a4 a5=>qg9_ (qdh_ n) n a0 a1 a2 a3 a4 a5
theorem qs5_:∀ (n:Nat) (a0:W8) (a1:Int) (a2:W8) (a3:List Int) (a4:W8) (a5:Int) (r:List Int) (h:qdh_ n a0 a1 a2 a3 a4 a5=some r),Gv P (.func 102) (qlw_ a0 a1 a2 a3 a4 a5) (qlx_ a0 a1 a2 a3 a4 a5) (qi5_ a0 a1 a2 a3 a4 a5 r) (qi6_ a0 a1 a2 a3 a4 a5 r)
 | 0,_,_,_,_,_,_,_,h=>nomatch h
 | n+1,a0,a1,a2,a3,a4,a5,r,h=>qzn_ (qdh_ n) (qs5_ n) n a0 a1 a2 a3 a4 a5 r h

def qly_ (a0:W8)(a1:Int)(a2 a3:W8)(a4:Int):List Value:=[(wlV a0),(i6 a1),(Value.func (.yield 0) #[] #[])]
def qlz_ (a0:W8)(a1:Int)(a2 a3:W8)(a4:Int):AH:=⟨sB [(0,(some (rblk P 47 [false,true,false,true,true,true] .ready none [(1,(pN 2 0)),(3,(pN 3 0)),(9,(Value.func (.func 101) #[] #[(pN 4 0),(pN 5 0)]))] 1))),(1,(some (.marks true))),(2,(cB [(wlV a2)] 22)),(3,(cB [(Value.slice none 0 0)] 28)),(4,(cB [(wlV a3)] 22)),(5,(cB [(i6 a4)] 3))],6,6⟩
def qi7_ (a0:W8)(a1:Int)(a2 a3:W8)(a4:Int)(r:List Int):Value:=match r with
 | o0=>(bO true)
def qi8_ (a0:W8)(a1:Int)(a2 a3:W8)(a4:Int)(r:List Int):AH:=match r with
 | o0=>⟨sB [(0,(some (rblk P 47 [false,true,false,true,true,true] .ready none [(1,(pN 2 0)),(3,(pN 3 0)),(9,(Value.func (.func 101) #[] #[(pN 4 0),(pN 5 0)]))] 1))),(1,(some (.marks true))),(2,(cB [(wlV a2)] 22)),(3,(cB [(slN o0 6)] 28)),(4,(cB [(wlV a3)] 22)),(5,(cB [(i6 a4)] 3)),(6,(nblk o0 3))],7,0⟩
abbrev G_treevisitq1 (a0:W8)(a1:Int)(a2 a3:W8)(a4:Int)(r:List Int):Prop:=Gv P (.func 102) (qly_ a0 a1 a2 a3 a4) (qlz_ a0 a1 a2 a3 a4) (qi7_ a0 a1 a2 a3 a4 r) (qi8_ a0 a1 a2 a3 a4 r)
abbrev qoy_ (a0:W8)(a1:Int)(a2 a3:W8)(a4:Int)(r:List Int)(ins outs:BL):CallA:=⟨6,ins,qi7_ a0 a1 a2 a3 a4 r,qi8_ a0 a1 a2 a3 a4 r,outs⟩
def qlb_ (x0 x2:W8)(x3:Int)(x4:W8)(x5:NL)(x6:Int)(st:List Int×Int):XSt:=match st with
 | (x1,x7)=>(sT 29 [(0,(wlV x4)),(2,(Value.func (.yield 0) #[] #[])),(17,(nlV x5)),(18,(i6 x6)),(19,(i6 x7))],[],⟨sB [(0,(some (rblk P 47 [false,true,false,true,true,true] .ready none [(1,(pN 2 0)),(3,(pN 3 0)),(9,(Value.func (.func 101) #[] #[(pN 4 0),(pN 5 0)]))] 1))),(1,(some (.marks true))),(2,(cB [(wlV x0)] 22)),(3,(cB [(slN x1 6)] 28)),(4,(cB [(wlV x2)] 22)),(5,(cB [(i6 x3)] 3)),(6,(nblk x1 3))],7,0⟩)
def qcn_ (x0 x2:W8)(x3:Int)(x4:W8)(x5:NL)(x6:Int)(r:List Int):Ex×XSt:=match r with
 | z0=>(.exit 0,(sT 29 [],[],⟨sB [(0,(some (rblk P 47 [false,true,false,true,true,true] .ready none [(1,(pN 2 0)),(3,(pN 3 0)),(9,(Value.func (.func 101) #[] #[(pN 4 0),(pN 5 0)]))] 1))),(1,(some (.marks true))),(2,(cB [(wlV x0)] 22)),(3,(cB [(slN z0 6)] 28)),(4,(cB [(wlV x2)] 22)),(5,(cB [(i6 x3)] 3)),(6,(nblk z0 3))],7,0⟩))
abbrev qz8_ (rnd:Option Nat)(x0 x2:W8)(x3:Int)(x4:W8)(x5:NL)(x6:Int)(st:List Int×Int)(c:Ex×XSt):Prop:=CG P rnd (fnN P 102) 6 (qx_ P 102 [false,false,true,false,true,true]) (qlb_ x0 x2 x3 x4 x5 x6 st) c
abbrev qh9_ (rd:Option Nat)(x0 x2:W8)(x3:Int)(x4:W8)(x5:NL)(x6:Int)(st:List Int×Int)(r:List Int):Prop:=CG P rd (fnN P 102) 6 (qx_ P 102 [false,true,false,true,true]) (qlb_ x0 x2 x3 x4 x5 x6 st) (qcn_ x0 x2 x3 x4 x5 x6 r)
def qcb_ (rec_treevisitq1:(W8)→(Int)→(W8)→(W8)→(Int)→Option (List Int))(n:Nat)(x0 x2:W8)(x3:Int)(x4:W8)(x5:NL)(x6:Int)(st:List Int×Int):Option ((List Int×Int) ⊕ (List Int)):=match st with
 | (x1,x7)=>
  match x1 with
  | []=>
   if x7<x6 then
    if 0≤x7∧x7<(((x5).l.length:Nat):Int) then
     if (x7).toNat<((x5).l).length then
      ((some (((x5).l).getD (x7).toNat 0))).bind fun y4_=>
      (rec_treevisitq1 x4 y4_ x0 x2 x3).bind fun y5_=>
      match y5_ with
      | []=>
       some (.inl (([]:List Int),(w64 (x7+1))))
      | y1_5_a::y1_5_t=>
       some (.inl ((y1_5_a::y1_5_t),(w64 (x7+1))))
     else none
    else none
   else
    some (.inr ([]:List Int))
  | x1a::x1t=>
   if x7<x6 then
    if 0≤x7∧x7<(((x5).l.length:Nat):Int) then
     if (x7).toNat<((x5).l).length then
      ((some (((x5).l).getD (x7).toNat 0))).bind fun y4_=>
      (qdh_ n x4 y4_ x0 (x1a::x1t) x2 x3).bind fun y5_=>
      match y5_ with
      | []=>
       none
      | y1_5_a::y1_5_t=>
       some (.inl ((y1_5_a::y1_5_t),(w64 (x7+1))))
     else none
    else none
   else
    some (.inr (x1a::x1t))
def qia_ (rec_treevisitq1:(W8)→(Int)→(W8)→(W8)→(Int)→Option (List Int))(n:Nat)(x0 x2:W8)(x3:Int)(x4:W8)(x5:NL)(x6:Int)(st:List Int×Int):Option (List Int):=iterM (qcb_ rec_treevisitq1 n x0 x2 x3 x4 x5 x6) n st
theorem quo_ (rec_treevisitq1:(W8)→(Int)→(W8)→(W8)→(Int)→Option (List Int))(hrec_treevisitq1:∀ (a0:W8) (a1:Int) (a2:W8) (a3:W8) (a4:Int) (r:List Int),rec_treevisitq1 a0 a1 a2 a3 a4=some r→Gv P (.func 102) (qly_ a0 a1 a2 a3 a4) (qlz_ a0 a1 a2 a3 a4) (qi7_ a0 a1 a2 a3 a4 r) (qi8_ a0 a1 a2 a3 a4 r))(n:Nat){rnd:Option Nat}(x0 x2:W8)(x3:Int)(x4:W8)(x5:NL)(x6:Int)(st:List Int×Int)(o:(List Int×Int) ⊕ (List Int))(h:qcb_ rec_treevisitq1 n x0 x2 x3 x4 x5 x6 st=some o):qz8_ rnd x0 x2 x3 x4 x5 x6 st (Sum.elim (fun s=>(.normal,qlb_ x0 x2 x3 x4 x5 x6 s)) (fun r=>qcn_ x0 x2 x3 x4 x5 x6 r) o):=by
 obtain⟨x1,x7⟩:=st
 unfold qcb_ at h
 dsimp only at h
 cases x1 with
 | nil=>
  dsimp only at h
  by_cases hy1:x7<x6
  ·rw[if_pos hy1] at h
   obtain⟨hy2,h⟩:=gd h
   obtain⟨hy3,h⟩:=gd h
   obtain⟨y4_,hy4,h⟩:=oB h
   obtain⟨y5_,hy5,h⟩:=oB h
   have k0:=fun {A L l} (k:PL A L l)=>zz 1 (xdT hy1) <|
    zz 7 (xk12 (Nat.add (x5).num 64) (x5).off (x5).cap hy2) <|
    zz 8 (nk13 hy4 hy3) <|
    k
   cases y5_ with
   | nil=>
    dsimp only at h
    obtain rfl:=oI h
    exact runC2 hm (kW [0,2,17,18,19] (iD 6) 7 0) (k0 <|
     yy 14 (.call (qoy_ x4 y4_ x0 x2 x3 ([]:List Int) (iD 6) (iD 6))) <|
     ww (hrec_treevisitq1 x4 y4_ x0 x2 x3 ([]:List Int) hy5) <|
     ee) (by kernel_rfl)
   | cons y1_5_a y1_5_t=>
    dsimp only at h
    obtain rfl:=oI h
    exact runC2 hm (kW [0,2,17,18,19] [(0,0,false),(1,1,false),(2,2,false),(3,3,false),(4,4,false),(5,5,false),(6,7,true)] 7 0) (k0 <|
     yy 14 (.call (qoy_ x4 y4_ x0 x2 x3 (y1_5_a::y1_5_t) (iD 6) [(0,0,false),(1,1,false),(2,2,false),(3,3,false),(4,4,false),(5,5,false),(7,6,true)])) <|
     ww (hrec_treevisitq1 x4 y4_ x0 x2 x3 (y1_5_a::y1_5_t) hy5) <|
     ww (qd_ (y1_5_a::y1_5_t) 3) <|
     ww (qd_ (y1_5_a::y1_5_t) 3) <|
     ee) (by kernel_rfl)
  ·rw[if_neg hy1] at h
   obtain rfl:=oI h
   exact runC2 hm (kW [] (iD 6) 7 0) (zz 1 (xdF hy1) <|
    ee) (by kernel_rfl)
 | cons x1a x1t=>
  dsimp only at h
  by_cases hy1:x7<x6
  ·rw[if_pos hy1] at h
   obtain⟨hy2,h⟩:=gd h
   obtain⟨hy3,h⟩:=gd h
   obtain⟨y4_,hy4,h⟩:=oB h
   obtain⟨y5_,hy5,h⟩:=oB h
   have k0:=fun {A L l} (k:PL A L l)=>zz 1 (xdT hy1) <|
    zz 7 (xk12 (Nat.add (x5).num 64) (x5).off (x5).cap hy2) <|
    zz 8 (nk13 hy4 hy3) <|
    k
   cases y5_ with
   | nil=>
    dsimp only at h
    cases h
   | cons y1_5_a y1_5_t=>
    dsimp only at h
    obtain rfl:=oI h
    exact runC2 hm (kW [0,2,17,18,19] [(0,0,false),(1,1,false),(2,2,false),(3,3,false),(4,4,false),(5,5,false),(6,7,true)] 7 0) (k0 <|
     yy 14 (.call (qxj_ x4 y4_ x0 (x1a::x1t) x2 x3 (y1_5_a::y1_5_t) [(0,0,false),(1,1,false),(2,2,false),(3,3,false),(4,6,true),(5,4,false),(6,5,false)] [(0,0,false),(1,1,false),(2,2,false),(3,3,false),(4,5,false),(5,6,false),(7,7,true)])) <|
     ww (qs5_ n x4 y4_ x0 (x1a::x1t) x2 x3 (y1_5_a::y1_5_t) hy5) <|
     ww (qd_ (x1a::x1t) 3) <|
     ww (qd_ (y1_5_a::y1_5_t) 3) <|
     ww (qd_ (y1_5_a::y1_5_t) 3) <|
     ee) (by kernel_rfl)
  ·rw[if_neg hy1] at h
   obtain rfl:=oI h
   exact runC2 hm (kW [] [(0,0,false),(1,1,false),(2,2,false),(3,3,false),(4,4,false),(5,5,false),(6,6,true)] 7 0) (zz 1 (xdF hy1) <|
    ww (qd_ (x1a::x1t) 3) <|
    ee) (by kernel_rfl)
theorem qhg_ (rec_treevisitq1:(W8)→(Int)→(W8)→(W8)→(Int)→Option (List Int))(hrec_treevisitq1:∀ (a0:W8) (a1:Int) (a2:W8) (a3:W8) (a4:Int) (r:List Int),rec_treevisitq1 a0 a1 a2 a3 a4=some r→Gv P (.func 102) (qly_ a0 a1 a2 a3 a4) (qlz_ a0 a1 a2 a3 a4) (qi7_ a0 a1 a2 a3 a4 r) (qi8_ a0 a1 a2 a3 a4 r))(n:Nat){rnd:Option Nat}(x0 x2:W8)(x3:Int)(x4:W8)(x5:NL)(x6:Int)(st:List Int×Int)(r:List Int)(h:qia_ rec_treevisitq1 n x0 x2 x3 x4 x5 x6 st=some r):qh9_ rnd x0 x2 x3 x4 x5 x6 st r:=
 CG.iter (b:=qx_ P 102 [false,false,true,false,true,true]) (by kernel_rfl) (body:=qcb_ rec_treevisitq1 n x0 x2 x3 x4 x5 x6) (S:=qlb_ x0 x2 x3 x4 x5 x6) (X:=qcn_ x0 x2 x3 x4 x5 x6)
  (fun s s' h=>quo_ rec_treevisitq1 hrec_treevisitq1 n x0 x2 x3 x4 x5 x6 s (.inl s') h)
  (fun s r h=>quo_ rec_treevisitq1 hrec_treevisitq1 n x0 x2 x3 x4 x5 x6 s (.inr r) h)
  (fun r=>by intro hx; cases hx) h
def qha_ (rec_treevisitq1:(W8)→(Int)→(W8)→(W8)→(Int)→Option (List Int))(n:Nat)(a0:W8)(a1:Int)(a2 a3:W8)(a4:Int):Option (List Int):=
 (qeg_ n a2 a3 a4 a1).bind fun c1_=>
 match c1_ with
 | []=>
  if 0≤a1∧a1<(((a0).l.length:Nat):Int) then
   ((some (((a0).l).getD (a1).toNat (0,0,0,0,0,0,nl0,0)))).bind fun c3_=>
   (qia_ rec_treevisitq1 n a2 a3 a4 a0 (c3_.2.2.2.2.2.2.1) ((((c3_.2.2.2.2.2.2.1)).l.length:Nat):Int) (([]:List Int),0)).bind fun c4_=>
   match c4_ with
   | []=>
    some ([]:List Int)
   | c4_a::c4_t=>
    some (c4_a::c4_t)
  else none
 | c1_a::c1_t=>
  if 0≤a1∧a1<(((a0).l.length:Nat):Int) then
   ((some (((a0).l).getD (a1).toNat (0,0,0,0,0,0,nl0,0)))).bind fun c3_=>
   (qia_ rec_treevisitq1 n a2 a3 a4 a0 (c3_.2.2.2.2.2.2.1) ((((c3_.2.2.2.2.2.2.1)).l.length:Nat):Int) ((c1_a::c1_t),0)).bind fun c4_=>
   match c4_ with
   | []=>
    some ([]:List Int)
   | c4_a::c4_t=>
    some (c4_a::c4_t)
  else none
theorem qzo_ (rec_treevisitq1:(W8)→(Int)→(W8)→(W8)→(Int)→Option (List Int))(hrec_treevisitq1:∀ (a0:W8) (a1:Int) (a2:W8) (a3:W8) (a4:Int) (r:List Int),rec_treevisitq1 a0 a1 a2 a3 a4=some r→Gv P (.func 102) (qly_ a0 a1 a2 a3 a4) (qlz_ a0 a1 a2 a3 a4) (qi7_ a0 a1 a2 a3 a4 r) (qi8_ a0 a1 a2 a3 a4 r))(n:Nat)(a0:W8)(a1:Int)(a2 a3:W8)(a4:Int)(r:List Int)(h:qha_ rec_treevisitq1 n a0 a1 a2 a3 a4=some r):G_treevisitq1 a0 a1 a2 a3 a4 r:=by
 unfold qha_ at h
 obtain⟨c1_,hc1,h⟩:=oB h
 cases c1_ with
 | nil=>
  dsimp only at h
  obtain⟨hc2,h⟩:=gd h
  obtain⟨c3_,hc3,h⟩:=oB h
  obtain⟨c4_,hc4,h⟩:=oB h
  have k0:=fun {A L l} (k:PL A L l)=>yy 6 (.call (qmf_ a2 a3 a4 a1 ([]:List Int) (iD 6) (iD 6))) <|
   ww (qj1_ n a2 a3 a4 a1 ([]:List Int) hc1) <|
   zz 13 (xk1 (a0).num (a0).off (a0).cap hc2) <|
   zz 14 (fk10 (a0).num (Nat.add (a0).off ((a1).toNat*8))) <|
   zz 15 (lk11 hc3 (qw_ hc2)) <|
   k
  cases c4_ with
  | nil=>
   dsimp only at h
   obtain rfl:=oI h
   exact runF2 hm (kW [6] (iD 6) 7 0) (k0 <|
    ww (p:=qh9_ none a2 a3 a4 a0 (c3_.2.2.2.2.2.2.1) ((((c3_.2.2.2.2.2.2.1)).l.length:Nat):Int) (([]:List Int),0) ([]:List Int)) (qhg_ rec_treevisitq1 hrec_treevisitq1 n a2 a3 a4 a0 (c3_.2.2.2.2.2.2.1) ((((c3_.2.2.2.2.2.2.1)).l.length:Nat):Int) (([]:List Int),0) ([]:List Int) hc4) <|
    ll 19 ⟨(kW [0,2,17,18,19] (iD 6) 7 0),(qcn_ a2 a3 a4 a0 (c3_.2.2.2.2.2.2.1) ((((c3_.2.2.2.2.2.2.1)).l.length:Nat):Int) ([]:List Int)).1,(qcn_ a2 a3 a4 a0 (c3_.2.2.2.2.2.2.1) ((((c3_.2.2.2.2.2.2.1)).l.length:Nat):Int) ([]:List Int)).2⟩ <|
    ee) (by kernel_rfl)
  | cons c4_a c4_t=>
   dsimp only at h
   obtain rfl:=oI h
   exact runF2 hm (kW [6] [(0,0,false),(1,1,false),(2,2,false),(3,3,false),(4,4,false),(5,5,false),(6,6,true)] 7 0) (k0 <|
    ww (p:=qh9_ none a2 a3 a4 a0 (c3_.2.2.2.2.2.2.1) ((((c3_.2.2.2.2.2.2.1)).l.length:Nat):Int) (([]:List Int),0) (c4_a::c4_t)) (qhg_ rec_treevisitq1 hrec_treevisitq1 n a2 a3 a4 a0 (c3_.2.2.2.2.2.2.1) ((((c3_.2.2.2.2.2.2.1)).l.length:Nat):Int) (([]:List Int),0) (c4_a::c4_t) hc4) <|
    ll 19 ⟨(kW [0,2,17,18,19] (iD 6) 7 0),(qcn_ a2 a3 a4 a0 (c3_.2.2.2.2.2.2.1) ((((c3_.2.2.2.2.2.2.1)).l.length:Nat):Int) (c4_a::c4_t)).1,(qcn_ a2 a3 a4 a0 (c3_.2.2.2.2.2.2.1) ((((c3_.2.2.2.2.2.2.1)).l.length:Nat):Int) (c4_a::c4_t)).2⟩ <|
    ww (qd_ (c4_a::c4_t) 3) <|
    ee) (by kernel_rfl)
 | cons c1_a c1_t=>
  dsimp only at h
  obtain⟨hc2,h⟩:=gd h
  obtain⟨c3_,hc3,h⟩:=oB h
  obtain⟨c4_,hc4,h⟩:=oB h
  have k0:=fun {A L l} (k:PL A L l)=>yy 6 (.call (qmf_ a2 a3 a4 a1 (c1_a::c1_t) (iD 6) [(0,0,false),(1,1,false),(2,2,false),(3,3,false),(4,4,false),(5,5,false),(6,6,true)])) <|
   ww (qj1_ n a2 a3 a4 a1 (c1_a::c1_t) hc1) <|
   ww (qd_ (c1_a::c1_t) 3) <|
   zz 13 (xk1 (a0).num (a0).off (a0).cap hc2) <|
   zz 14 (fk10 (a0).num (Nat.add (a0).off ((a1).toNat*8))) <|
   zz 15 (lk11 hc3 (qw_ hc2)) <|
   k
  cases c4_ with
  | nil=>
   dsimp only at h
   obtain rfl:=oI h
   exact runF2 hm (kW [6] (iD 6) 7 0) (k0 <|
    ww (p:=qh9_ none a2 a3 a4 a0 (c3_.2.2.2.2.2.2.1) ((((c3_.2.2.2.2.2.2.1)).l.length:Nat):Int) ((c1_a::c1_t),0) ([]:List Int)) (qhg_ rec_treevisitq1 hrec_treevisitq1 n a2 a3 a4 a0 (c3_.2.2.2.2.2.2.1) ((((c3_.2.2.2.2.2.2.1)).l.length:Nat):Int) ((c1_a::c1_t),0) ([]:List Int) hc4) <|
    ww (qd_ (c1_a::c1_t) 3) <|
    ll 19 ⟨(kW [0,2,17,18,19] [(0,0,false),(1,1,false),(2,2,false),(3,3,false),(4,4,false),(5,5,false),(6,6,true)] 7 0),(qcn_ a2 a3 a4 a0 (c3_.2.2.2.2.2.2.1) ((((c3_.2.2.2.2.2.2.1)).l.length:Nat):Int) ([]:List Int)).1,(qcn_ a2 a3 a4 a0 (c3_.2.2.2.2.2.2.1) ((((c3_.2.2.2.2.2.2.1)).l.length:Nat):Int) ([]:List Int)).2⟩ <|
    ee) (by kernel_rfl)
  | cons c4_a c4_t=>
   dsimp only at h
   obtain rfl:=oI h
   exact runF2 hm (kW [6] [(0,0,false),(1,1,false),(2,2,false),(3,3,false),(4,4,false),(5,5,false),(6,6,true)] 7 0) (k0 <|
    ww (p:=qh9_ none a2 a3 a4 a0 (c3_.2.2.2.2.2.2.1) ((((c3_.2.2.2.2.2.2.1)).l.length:Nat):Int) ((c1_a::c1_t),0) (c4_a::c4_t)) (qhg_ rec_treevisitq1 hrec_treevisitq1 n a2 a3 a4 a0 (c3_.2.2.2.2.2.2.1) ((((c3_.2.2.2.2.2.2.1)).l.length:Nat):Int) ((c1_a::c1_t),0) (c4_a::c4_t) hc4) <|
    ww (qd_ (c1_a::c1_t) 3) <|
    ll 19 ⟨(kW [0,2,17,18,19] [(0,0,false),(1,1,false),(2,2,false),(3,3,false),(4,4,false),(5,5,false),(6,6,true)] 7 0),(qcn_ a2 a3 a4 a0 (c3_.2.2.2.2.2.2.1) ((((c3_.2.2.2.2.2.2.1)).l.length:Nat):Int) (c4_a::c4_t)).1,(qcn_ a2 a3 a4 a0 (c3_.2.2.2.2.2.2.1) ((((c3_.2.2.2.2.2.2.1)).l.length:Nat):Int) (c4_a::c4_t)).2⟩ <|
    ww (qd_ (c4_a::c4_t) 3) <|
    ee) (by kernel_rfl)
def qck_:Nat→(W8)→(Int)→(W8)→(W8)→(Int)→Option (List Int)
 | 0=>fun _ _ _ _ _=>none
 | n+1=>fun a0 a1 a2 a3 a4=>qha_ (qck_ n) n a0 a1 a2 a3 a4
theorem qns_:∀ (n:Nat) (a0:W8) (a1:Int) (a2:W8) (a3:W8) (a4:Int) (r:List Int) (h:qck_ n a0 a1 a2 a3 a4=some r),Gv P (.func 102) (qly_ a0 a1 a2 a3 a4) (qlz_ a0 a1 a2 a3 a4) (qi7_ a0 a1 a2 a3 a4 r) (qi8_ a0 a1 a2 a3 a4 r)
 | 0,_,_,_,_,_,_,h=>nomatch h
 | n+1,a0,a1,a2,a3,a4,r,h=>qzo_ (qck_ n) (qns_ n) n a0 a1 a2 a3 a4 r h

def qup_ (a0 a1:W8)(a2:Int)(r:List Int):Value:=match r with
 | o0=>(Value.tuple #[])
def quq_ (a0 a1:W8)(a2:Int)(r:List Int):AH:=match r with
 | o0=>⟨sB [(0,(some (rblk P 47 [false,true,false,true,true,true] .ready none [(1,(pN 2 0)),(3,(pN 3 0)),(9,(Value.func (.func 101) #[] #[(pN 4 0),(pN 5 0)]))] 1))),(1,(some (.marks true))),(2,(cB [(wlV a0)] 22)),(3,(cB [(slN o0 6)] 28)),(4,(cB [(wlV a1)] 22)),(5,(cB [(i6 a2)] 3)),(6,(nblk o0 3))],7,0⟩
abbrev qz9_ (a0 a1:W8)(a2:Int)(r:List Int):Prop:=Gv P (.func 101) [(Value.func (.yield 0) #[] #[]),(pN 4 0),(pN 5 0)] ⟨sB [(0,(some (rblk P 47 [false,true,false,true,true,true] .ready none [(1,(pN 2 0)),(3,(pN 3 0)),(9,(Value.func (.func 101) #[] #[(pN 4 0),(pN 5 0)]))] 1))),(1,(some (.marks true))),(2,(cB [(wlV a0)] 22)),(3,(cB [(Value.slice none 0 0)] 28)),(4,(cB [(wlV a1)] 22)),(5,(cB [(i6 a2)] 3))],6,6⟩ (qup_ a0 a1 a2 r) (quq_ a0 a1 a2 r)
abbrev qur_ (a0 a1:W8)(a2:Int)(r:List Int)(ins outs:BL):CallA:=⟨6,ins,qup_ a0 a1 a2 r,quq_ a0 a1 a2 r,outs⟩
def qlc_ (n:Nat)(a0 a1:W8)(a2:Int):Option (List Int):=
 (qck_ n a1 a2 a0 a1 a2).bind fun c1_=>
 match c1_ with
 | []=>
  some ([]:List Int)
 | c1_a::c1_t=>
  some (c1_a::c1_t)
theorem qp0_ (n:Nat)(a0 a1:W8)(a2:Int)(r:List Int)(h:qlc_ n a0 a1 a2=some r):qz9_ a0 a1 a2 r:=by
 unfold qlc_ at h
 obtain⟨c1_,hc1,h⟩:=oB h
 cases c1_ with
 | nil=>
  dsimp only at h
  obtain rfl:=oI h
  exact runF2 hm (kW [] (iD 6) 7 0) (yy 3 (.call (qoy_ a1 a2 a0 a1 a2 ([]:List Int) (iD 6) (iD 6))) <|
   ww (qns_ n a1 a2 a0 a1 a2 ([]:List Int) hc1) <|
   ee) (by kernel_rfl)
 | cons c1_a c1_t=>
  dsimp only at h
  obtain rfl:=oI h
  exact runF2 hm (kW [] [(0,0,false),(1,1,false),(2,2,false),(3,3,false),(4,4,false),(5,5,false),(6,6,true)] 7 0) (yy 3 (.call (qoy_ a1 a2 a0 a1 a2 (c1_a::c1_t) (iD 6) [(0,0,false),(1,1,false),(2,2,false),(3,3,false),(4,4,false),(5,5,false),(6,6,true)])) <|
   ww (qns_ n a1 a2 a0 a1 a2 (c1_a::c1_t) hc1) <|
   ww (qd_ (c1_a::c1_t) 3) <|
   ww (qd_ (c1_a::c1_t) 3) <|
   ee) (by kernel_rfl)

def qv5_ (a0:W8)(r:(NL) ⊕ (Unit)):Value:=match r with
 | .inl o0=>(nlV o0)
 | .inr _=>(nlV nl0)
def qv6_ (a0:W8)(r:(NL) ⊕ (Unit)):AH:=match r with
 | .inl o0=>⟨sB [(0,(some (.marks false)))],1,0⟩
 | .inr _=>⟨sB [],0,0⟩
abbrev q1z_ (a0:W8)(r:(NL) ⊕ (Unit)):Prop:=Gv P (.func 47) [(wlV a0)] ⟨sB [],0,0⟩ (qv5_ a0 r) (qv6_ a0 r)
abbrev qv7_ (a0:W8)(r:(NL) ⊕ (Unit))(ins outs:BL):CallA:=⟨0,ins,qv5_ a0 r,qv6_ a0 r,outs⟩
def qhh_ (n:Nat)(a0:W8):Option ((NL) ⊕ (Unit)):=
 (qg8_ n a0).bind fun c1_=>
 if c1_=0 then
  (qmy_ n a0 0).bind fun _=>
  (qlc_ n a0 a0 0).bind fun c4_=>
  match c4_ with
  | []=>
   some (.inl nl0)
  | c4_a::c4_t=>
   if hc5:(c4_a::c4_t).length≤140737488355328 then
    some (.inl (frzL (c4_a::c4_t) hc5))
   else none
 else
  some (.inr ())
theorem qrq_ (n:Nat)(a0:W8)(r:(NL) ⊕ (Unit))(h:qhh_ n a0=some r):q1z_ a0 r:=by
 unfold qhh_ at h
 obtain⟨c1_,hc1,h⟩:=oB h
 have k0:=fun {A L l} (k:PL A L l)=>yy 6 (.call (qs4_ a0 c1_ [] [])) <|
  ww (qnr_ n a0 c1_ hc1) <|
  k
 by_cases hc2:c1_=0
 ·rw[if_pos hc2] at h
  obtain⟨_,hc3,h⟩:=oB h
  obtain⟨c4_,hc4,h⟩:=oB h
  have k2:=fun {A L l} (k:PL A L l)=>zz 7 (xnF hc2) <|
   yy 14 (.call (q1x_ a0 0 () [] [(2,0,false),(3,1,false)])) <|
   ww (qxu_ n a0 0 () hc3) <|
   k
  cases c4_ with
  | nil=>
   dsimp only at h
   obtain rfl:=oI h
   exact runF2 hm ⟨[2],[(0,4,false)],1,0,[],true,[28],[],[2]⟩ (k0 <|
    k2 <|
    yy 16 (.rng (qur_ a0 a0 0 ([]:List Int) [(0,5,false),(1,4,false),(2,0,false),(3,1,false),(4,2,false),(5,3,false)] [(5,0,false),(4,1,false),(0,2,false),(1,3,false),(2,4,false),(3,5,false)]) [1,3,9]) <|
    ww (qp0_ n a0 a0 0 ([]:List Int) hc4) <|
    ee) (by kernel_rfl)
  | cons c4_a c4_t=>
   dsimp only at h
   obtain⟨hc5,h⟩:=gdD h
   obtain rfl:=oI h
   exact runF2 hm ⟨[2],[(0,4,false)],1,0,[(6,Nat.add (2*cod (c4_a::c4_t)+1) 64)],true,[],[],[]⟩ (k0 <|
    k2 <|
    yy 16 (.rng (qur_ a0 a0 0 (c4_a::c4_t) [(0,5,false),(1,4,false),(2,0,false),(3,1,false),(4,2,false),(5,3,false)] [(5,0,false),(4,1,false),(0,2,false),(1,3,false),(2,4,false),(3,5,false),(6,6,true)]) [1,3,9]) <|
    ww (qp0_ n a0 a0 0 (c4_a::c4_t) hc4) <|
    ww (qd_ (c4_a::c4_t) 3) <|
    ww (frz_ok qip_ qsp_ (c4_a::c4_t)) <|
    ee) (by kernel_rfl)
 ·rw[if_neg hc2] at h
  obtain rfl:=oI h
  exact runF2 hm ⟨[2],[],0,0,[],true,[],[],[2]⟩ (k0 <|
   zz 7 (xnT hc2) <|
   ee) (by kernel_rfl)

def qhn_ (a0:W8)(a1:NL)(a2:WL rw_iLii)(a3:NL)(a4 a5 a6 a7 a8 a9:Int)(r:Unit):Value:=match r with
 | _=>(bO true)
def qho_ (a0:W8)(a1:NL)(a2:WL rw_iLii)(a3:NL)(a4 a5 a6 a7 a8 a9:Int)(r:Unit):AH:=match r with
 | _=>⟨sB [(0,(some (rblk P 25 [false,true,false,true,true] .ready none [(3,(pN 2 0)),(5,(pN 3 0)),(10,(Value.func (.func 45) #[] #[(pN 4 0)]))] 1))),(1,(some (.marks true))),(2,(cB [(Value.func (.func 27) #[] #[])] 71)),(3,(cB [(sN 6 0 1 (Nat.add big 4))] 34)),(4,(cB [(pN 5 0)] 107)),(5,(cB [(wlV a0),(nlV a1),(wlV a2),(nlV a3),(i6 a4),(i6 a5)] 66)),(6,(cB [(i6 a6),(i6 a7),(i6 a8),(i6 a9)] 38))],7,0⟩
abbrev qoa_ (a0:W8)(a1:NL)(a2:WL rw_iLii)(a3:NL)(a4 a5 a6 a7 a8 a9:Int)(r:Unit):Prop:=Gv P (.yield 0) [(Value.agg #[(i6 a6),(i6 a7),(i6 a8),(i6 a9)])] ⟨sB [(0,(some (rblk P 25 [false,true,false,true,true] .ready none [(3,(pN 2 0)),(5,(pN 3 0)),(10,(Value.func (.func 45) #[] #[(pN 4 0)]))] 1))),(1,(some (.marks true))),(2,(cB [(Value.func (.func 27) #[] #[])] 71)),(3,(cB [(Value.slice none 0 0)] 34)),(4,(cB [(pN 5 0)] 107)),(5,(cB [(wlV a0),(nlV a1),(wlV a2),(nlV a3),(i6 a4),(i6 a5)] 66))],6,6⟩ (qhn_ a0 a1 a2 a3 a4 a5 a6 a7 a8 a9 r) (qho_ a0 a1 a2 a3 a4 a5 a6 a7 a8 a9 r)
abbrev qob_ (a0:W8)(a1:NL)(a2:WL rw_iLii)(a3:NL)(a4 a5 a6 a7 a8 a9:Int)(r:Unit)(ins outs:BL):CallA:=⟨6,ins,qhn_ a0 a1 a2 a3 a4 a5 a6 a7 a8 a9 r,qho_ a0 a1 a2 a3 a4 a5 a6 a7 a8 a9 r,outs⟩
def qe8_ (n:Nat)(a0:W8)(a1:NL)(a2:WL rw_iLii)(a3:NL)(a4 a5 a6 a7 a8 a9:Int):Option (Unit):=
 some ()
theorem ql5_ (n:Nat)(a0:W8)(a1:NL)(a2:WL rw_iLii)(a3:NL)(a4 a5 a6 a7 a8 a9:Int)(r:Unit)(h:qe8_ n a0 a1 a2 a3 a4 a5 a6 a7 a8 a9=some r):qoa_ a0 a1 a2 a3 a4 a5 a6 a7 a8 a9 r:=by
 unfold qe8_ at h
 obtain rfl:=oI h
 exact runY2 hm (kW [] [(0,0,false),(1,1,false),(2,2,false),(3,3,false),(4,4,false),(5,5,false),(6,8,false)] 7 0) (ee) (ee) (by kernel_rfl)

def qib_ (a0 a1 a2 a3:Int)(a4:W8)(a5:NL)(a6:WL rw_iLii)(a7:NL)(a8 a9:Int)(r:List (Int×Int×Int×Int)):Value:=match r with
 | o0=>(bO true)
def qic_ (a0 a1 a2 a3:Int)(a4:W8)(a5:NL)(a6:WL rw_iLii)(a7:NL)(a8 a9:Int)(r:List (Int×Int×Int×Int)):AH:=match r with
 | o0=>⟨sB [(0,(cB [(pN 1 0)] 107)),(1,(cB [(wlV a4),(nlV a5),(wlV a6),(nlV a7),(i6 a8),(i6 a9)] 66)),(2,(cB [(Value.func (.yield 3) #[] #[])] 108)),(3,(some (rblk P 25 [false,true,false,true,true] .ready none [(3,(pN 5 0)),(5,(pN 6 0)),(10,(Value.func (.func 45) #[] #[(pN 0 0)]))] 4))),(4,(some (.marks true))),(5,(cB [(Value.func (.func 27) #[] #[])] 71)),(6,(cB [(slR o0 7 4)] 34)),(7,(nblkR qm_ o0 38))],8,0⟩
abbrev qo9_ (a0 a1 a2 a3:Int)(a4:W8)(a5:NL)(a6:WL rw_iLii)(a7:NL)(a8 a9:Int)(r:List (Int×Int×Int×Int)):Prop:=Gv P (.func 46) [(i6 a0),(i6 a1),(i6 a2),(i6 a3),(pN 0 0),(pN 2 0)] ⟨sB [(0,(cB [(pN 1 0)] 107)),(1,(cB [(wlV a4),(nlV a5),(wlV a6),(nlV a7),(i6 a8),(i6 a9)] 66)),(2,(cB [(Value.func (.yield 3) #[] #[])] 108)),(3,(some (rblk P 25 [false,true,false,true,true] .ready none [(3,(pN 5 0)),(5,(pN 6 0)),(10,(Value.func (.func 45) #[] #[(pN 0 0)]))] 4))),(4,(some (.marks true))),(5,(cB [(Value.func (.func 27) #[] #[])] 71)),(6,(cB [(Value.slice none 0 0)] 34))],7,7⟩ (qib_ a0 a1 a2 a3 a4 a5 a6 a7 a8 a9 r) (qic_ a0 a1 a2 a3 a4 a5 a6 a7 a8 a9 r)
abbrev qp_ (a0 a1 a2 a3:Int)(a4:W8)(a5:NL)(a6:WL rw_iLii)(a7:NL)(a8 a9:Int)(r:List (Int×Int×Int×Int))(ins outs:BL):CallA:=⟨7,ins,qib_ a0 a1 a2 a3 a4 a5 a6 a7 a8 a9 r,qic_ a0 a1 a2 a3 a4 a5 a6 a7 a8 a9 r,outs⟩
def qv_ (n:Nat)(a0 a1 a2 a3:Int)(a4:W8)(a5:NL)(a6:WL rw_iLii)(a7:NL)(a8 a9:Int):Option (List (Int×Int×Int×Int)):=
 if (maxB a0 a8) ≥ (minB a1 a9) then
  some ([]:List (Int×Int×Int×Int))
 else
  (qe8_ n a4 a5 a6 a7 a8 a9 (maxB a0 a8) (minB a1 a9) a2 a3).bind fun _=>
  some [((maxB a0 a8),(minB a1 a9),a2,a3)]
theorem qj_ (n:Nat)(a0 a1 a2 a3:Int)(a4:W8)(a5:NL)(a6:WL rw_iLii)(a7:NL)(a8 a9:Int)(r:List (Int×Int×Int×Int))(h:qv_ n a0 a1 a2 a3 a4 a5 a6 a7 a8 a9=some r):qo9_ a0 a1 a2 a3 a4 a5 a6 a7 a8 a9 r:=by
 unfold qv_ at h
 by_cases hc1:(maxB a0 a8) ≥ (minB a1 a9)
 ·rw[if_pos hc1] at h
  obtain rfl:=oI h
  exact runF2 hm (kW [10] (iD 7) 8 0) (zz 20 (xdT hc1) <|
   ee) (by kernel_rfl)
 ·rw[if_neg hc1] at h
  obtain⟨_,hc2,h⟩:=oB h
  obtain rfl:=oI h
  exact runF2 hm (kW [10] (iD 8) 8 0) (zz 20 (xdF hc1) <|
   yy 28 (.call (qob_ a4 a5 a6 a7 a8 a9 (maxB a0 a8) (minB a1 a9) a2 a3 () [(0,3,false),(1,4,false),(2,5,false),(3,6,false),(4,0,false),(5,1,false)] [(3,0,false),(4,1,false),(5,2,false),(6,3,false),(0,4,false),(1,5,false),(7,6,false)])) <|
   ww (ql5_ n a4 a5 a6 a7 a8 a9 (maxB a0 a8) (minB a1 a9) a2 a3 () hc2) <|
   ee) (by kernel_rfl)

def qkn_ (r:Unit):Value:=match r with
 | _=>(Value.tuple #[])
def qko_ (r:Unit):AH:=match r with
 | _=>⟨sB [],0,0⟩
abbrev qr0_ (r:Unit):Prop:=Gv P (.func 74) [(Value.slice none 0 0)] ⟨sB [],0,0⟩ (qkn_  r) (qko_  r)
abbrev qkp_ (r:Unit)(ins outs:BL):CallA:=⟨0,ins,qkn_  r,qko_  r,outs⟩
def qd8_ (st:Unit):XSt:=match st with
 | _=>(sT 28 [(0,(Value.slice none 0 0)),(2,(i6 (0:Int))),(3,(i6 (-1:Int)))],[],⟨sB [],0,0⟩)
def qcu_ (r:Unit):Ex×XSt:=match r with
 | _=>(.exit 0,(sT 28 [],[],⟨sB [],0,0⟩))
abbrev qp1_ (rnd:Option Nat)(st:Unit)(c:Ex×XSt):Prop:=CG P rnd (fnN P 74) 0 (qx_ P 74 [false,false,true]) (qd8_ st) c
abbrev qp2_ (rd:Option Nat)(st r:Unit):Prop:=CG P rd (fnN P 74) 0 (qx_ P 74 [false,true]) (qd8_ st) (qcu_ r)
def qd9_ (n:Nat)(st:Unit):Option ((Unit) ⊕ (Unit)):=match st with
 | _=>
  some (.inr ())
def qfw_ (n:Nat)(st:Unit):Option (Unit):=iterM (qd9_ n) n st
theorem qi9_ (n:Nat){rnd:Option Nat}(st:Unit)(o:(Unit) ⊕ (Unit))(h:qd9_ n st=some o):qp1_ rnd st (Sum.elim (fun s=>(.normal,qd8_ s)) (fun r=>qcu_ r) o):=by
 unfold qd9_ at h
 dsimp only at h
 obtain rfl:=oI h
 exact runC2 hm (kW [] [] 0 0) (ee) (by kernel_rfl)
theorem qnt_ (n:Nat){rnd:Option Nat}(st r:Unit)(h:qfw_ n st=some r):qp2_ rnd st r:=
 CG.iter (b:=qx_ P 74 [false,false,true]) (by kernel_rfl) (body:=qd9_ n) (S:=qd8_) (X:=qcu_)
  (fun s s' h=>qi9_ n s (.inl s') h)
  (fun s r h=>qi9_ n s (.inr r) h)
  (fun r=>by intro hx; cases hx) h
def qcl_ (n:Nat):Option (Unit):=
 (qfw_ n ()).bind fun _=>
 some ()
theorem qid_ (n:Nat)(r:Unit)(h:qcl_ n=some r):qr0_ r:=by
 unfold qcl_ at h
 obtain⟨_,hc1,h⟩:=oB h
 obtain rfl:=oI h
 exact runF2 hm (kW [] [] 0 0) (ww (qnt_ n (rnd:=none) () () hc1) <|
  ll 7 ⟨(kW [0,2,3] [] 0 0),(qcu_ ()).1,(qcu_ ()).2⟩ <|
  ee) (by kernel_rfl)

def qj2_ (a0:WL rw_iLii)(r:Unit):Value:=match r with
 | _=>(Value.func (.func 120) #[] #[(pN 0 0)])
def qj3_ (a0:WL rw_iLii)(r:Unit):AH:=match r with
 | _=>⟨sB [(0,(cB [(wlV a0)] 23))],1,0⟩
abbrev qq5_ (a0:WL rw_iLii)(r:Unit):Prop:=Gv P (.func 104) [(wlV a0)] ⟨sB [],0,0⟩ (qj2_ a0 r) (qj3_ a0 r)
abbrev qj4_ (a0:WL rw_iLii)(r:Unit)(ins outs:BL):CallA:=⟨0,ins,qj2_ a0 r,qj3_ a0 r,outs⟩
def qce_ (n:Nat)(a0:WL rw_iLii):Option (Unit):=
 some ()
theorem qhp_ (n:Nat)(a0:WL rw_iLii)(r:Unit)(h:qce_ n a0=some r):qq5_ a0 r:=by
 unfold qce_ at h
 obtain rfl:=oI h
 exact runF2 hm (kW [2] [(0,0,false)] 1 0) (ee) (by kernel_rfl)

def qmi_ (a0:NL)(r:Bool):Value:=match r with
 | o0=>(bO o0)
def qmj_ (a0:NL)(r:Bool):AH:=match r with
 | o0=>⟨sB [],0,0⟩
abbrev qtx_ (a0:NL)(r:Bool):Prop:=Gv P (.func 127) [(Value.slice none 0 0),(nlV a0)] ⟨sB [],0,0⟩ (qmi_ a0 r) (qmj_ a0 r)
abbrev qty_ (a0:NL)(r:Bool)(ins outs:BL):CallA:=⟨0,ins,qmi_ a0 r,qmj_ a0 r,outs⟩
def qe3_ (x0:NL)(st:Unit):XSt:=match st with
 | _=>(sT 26 [(0,(Value.slice none 0 0)),(1,(nlV x0)),(12,(i6 (0:Int))),(13,(i6 (0:Int)))],[],⟨sB [],0,0⟩)
def qdp_ (x0:NL)(r:Unit):Ex×XSt:=match r with
 | _=>(.exit 0,(sT 26 [],[],⟨sB [],0,0⟩))
abbrev qr1_ (rnd:Option Nat)(x0:NL)(st:Unit)(c:Ex×XSt):Prop:=CG P rnd (fnN P 127) 0 (qx_ P 127 [false,false,true,false,true,true]) (qe3_ x0 st) c
abbrev qr2_ (rd:Option Nat)(x0:NL)(st r:Unit):Prop:=CG P rd (fnN P 127) 0 (qx_ P 127 [false,true,false,true,true]) (qe3_ x0 st) (qdp_ x0 r)
def qdq_ (n:Nat)(x0:NL)(st:Unit):Option ((Unit) ⊕ (Unit)):=match st with
 | _=>
  some (.inr ())
def qgo_ (n:Nat)(x0:NL)(st:Unit):Option (Unit):=iterM (qdq_ n x0) n st
theorem qkq_ (n:Nat){rnd:Option Nat}(x0:NL)(st:Unit)(o:(Unit) ⊕ (Unit))(h:qdq_ n x0 st=some o):qr1_ rnd x0 st (Sum.elim (fun s=>(.normal,qe3_ x0 s)) (fun r=>qdp_ x0 r) o):=by
 unfold qdq_ at h
 dsimp only at h
 obtain rfl:=oI h
 exact runC2 hm (kW [] [] 0 0) (ee) (by kernel_rfl)
theorem qpa_ (n:Nat){rnd:Option Nat}(x0:NL)(st r:Unit)(h:qgo_ n x0 st=some r):qr2_ rnd x0 st r:=
 CG.iter (b:=qx_ P 127 [false,false,true,false,true,true]) (by kernel_rfl) (body:=qdq_ n x0) (S:=qe3_ x0) (X:=qdp_ x0)
  (fun s s' h=>qkq_ n x0 s (.inl s') h)
  (fun s r h=>qkq_ n x0 s (.inr r) h)
  (fun r=>by intro hx; cases hx) h
def qft_ (n:Nat)(a0:NL):Option (Bool):=
 if (0:Int)=(((a0).l.length:Nat):Int) then
  (qgo_ n a0 ()).bind fun _=>
  some true
 else
  some false
theorem qq6_ (n:Nat)(a0:NL)(r:Bool)(h:qft_ n a0=some r):qtx_ a0 r:=by
 unfold qft_ at h
 by_cases hc1:(0:Int)=(((a0).l.length:Nat):Int)
 ·rw[if_pos hc1] at h
  obtain⟨_,hc2,h⟩:=oB h
  obtain rfl:=oI h
  exact runF2 hm (kW [4] [] 0 0) (zz 8 (xnF hc1) <|
   ww (qpa_ n (rnd:=none) a0 () () hc2) <|
   ll 16 ⟨(kW [0,1,12,13] [] 0 0),(qdp_ a0 ()).1,(qdp_ a0 ()).2⟩ <|
   ee) (by kernel_rfl)
 ·rw[if_neg hc1] at h
  obtain rfl:=oI h
  exact runF2 hm (kW [4] [] 0 0) (zz 8 (xnT hc1) <|
   ee) (by kernel_rfl)

def qmk_ (a0:NL)(r:Bool):Value:=match r with
 | o0=>(bO o0)
def qml_ (a0:NL)(r:Bool):AH:=match r with
 | o0=>⟨sB [],0,0⟩
abbrev qtz_ (a0:NL)(r:Bool):Prop:=Gv P (.func 121) [(Value.slice none 0 0),(nlV a0)] ⟨sB [],0,0⟩ (qmk_ a0 r) (qml_ a0 r)
abbrev qt0_ (a0:NL)(r:Bool)(ins outs:BL):CallA:=⟨0,ins,qmk_ a0 r,qml_ a0 r,outs⟩
def qei_ (n:Nat)(a0:NL):Option (Bool):=
 if (((a0).l.length:Nat):Int)≤0 then
  ((some (w64 ((0:Int)-(((a0).l.length:Nat):Int))))).bind fun c2_=>
  if c2_=0 then
   (qft_ n a0).bind fun c4_=>
   some c4_
  else none
 else
  some false
theorem qq7_ (n:Nat)(a0:NL)(r:Bool)(h:qei_ n a0=some r):qtz_ a0 r:=by
 unfold qei_ at h
 by_cases hc1:(((a0).l.length:Nat):Int)≤0
 ·rw[if_pos hc1] at h
  obtain⟨c2_,hc2,h⟩:=oB h
  obtain⟨hc3,h⟩:=gd h
  obtain⟨c4_,hc4,h⟩:=oB h
  obtain rfl:=oI h
  exact runF2 hm (kW [4] [] 0 0) (zz 7 (xdT hc1) <|
   zz 14 (xnm hc2) <|
   yy 15 (.pur (Value.slice none 0 0)) <|
   ww (p:=qki_ P 28 (Value.slice none 0 0) (some (i6 c2_)) none none Ax.h0=some ((Value.slice none 0 0),Ax.h0)) (slN0Lo hc3 (by kernel_rfl)) <|
   yy 17 (.call (qty_ a0 c4_ [] [])) <|
   ww (qq6_ n a0 c4_ hc4) <|
   ee) (by kernel_rfl)
 ·rw[if_neg hc1] at h
  obtain rfl:=oI h
  exact runF2 hm (kW [4] [] 0 0) (zz 7 (xdF hc1) <|
   ee) (by kernel_rfl)

def qrr_ (a0:Int)(a1:NL)(a2 a3 a4:Int)(r:Bool):Value:=match r with
 | o0=>(bO o0)
def qrs_ (a0:Int)(a1:NL)(a2 a3 a4:Int)(r:Bool):AH:=match r with
 | o0=>⟨sB [],0,0⟩
abbrev qxv_ (a0:Int)(a1:NL)(a2 a3 a4:Int)(r:Bool):Prop:=Gv P (.func 106) [(Value.agg #[(i6 a0),(nlV a1),(i6 a2),(i6 a3)]),(i6 a4),(Value.slice none 0 0)] ⟨sB [],0,0⟩ (qrr_ a0 a1 a2 a3 a4 r) (qrs_ a0 a1 a2 a3 a4 r)
abbrev qrt_ (a0:Int)(a1:NL)(a2 a3 a4:Int)(r:Bool)(ins outs:BL):CallA:=⟨0,ins,qrr_ a0 a1 a2 a3 a4 r,qrs_ a0 a1 a2 a3 a4 r,outs⟩
def qfc_ (n:Nat)(a0:Int)(a1:NL)(a2 a3 a4:Int):Option (Bool):=
 if a0=a4 then
  (qei_ n a1).bind fun c2_=>
  some c2_
 else
  some false
theorem qnu_ (n:Nat)(a0:Int)(a1:NL)(a2 a3 a4:Int)(r:Bool)(h:qfc_ n a0 a1 a2 a3 a4=some r):qxv_ a0 a1 a2 a3 a4 r:=by
 unfold qfc_ at h
 by_cases hc1:a0=a4
 ·rw[if_pos hc1] at h
  obtain⟨c2_,hc2,h⟩:=oB h
  obtain rfl:=oI h
  exact runF2 hm (kW [6] [] 0 0) (zz 7 (xeT hc1) <|
   yy 12 (.call (qt0_ a1 c2_ [] [])) <|
   ww (qq7_ n a1 c2_ hc2) <|
   ee) (by kernel_rfl)
 ·rw[if_neg hc1] at h
  obtain rfl:=oI h
  exact runF2 hm (kW [6] [] 0 0) (zz 7 (xeF hc1) <|
   ee) (by kernel_rfl)

def qs6_ (a0 a1 a2:Int)(a3:Bool)(a4:Int)(a5:NL)(a6 a7 a8:Int)(r:Int×NL×Int×Int×Bool):Value:=match r with
 | (o0,o1,o2,o3,o4)=>(Value.agg #[(i6 o0),(nlV o1),(i6 o2),(i6 o3),(bO o4)])
def qs7_ (a0 a1 a2:Int)(a3:Bool)(a4:Int)(a5:NL)(a6 a7 a8:Int)(r:Int×NL×Int×Int×Bool):AH:=match r with
 | (o0,o1,o2,o3,o4)=>⟨sB [(2,(cB [(i6 o0),(nlV o1),(i6 o2),(i6 o3),(bO o4)] 187))],3,2⟩
abbrev qzp_ (a0 a1 a2:Int)(a3:Bool)(a4:Int)(a5:NL)(a6 a7 a8:Int)(r:Int×NL×Int×Int×Bool):Prop:=Gv P (.func 105) [(Value.agg #[(i6 a0),(Value.slice none 0 0),(i6 a1),(i6 a2),(bO a3)]),(Value.agg #[(i6 a4),(nlV a5),(i6 a6),(i6 a7)]),(pN 0 0),(pN 1 0)] ⟨sB [(0,(cB [(i6 a8)] 3)),(1,(cB [(Value.slice none 0 0)] 28))],2,2⟩ (qs6_ a0 a1 a2 a3 a4 a5 a6 a7 a8 r) (qs7_ a0 a1 a2 a3 a4 a5 a6 a7 a8 r)
abbrev qzq_ (a0 a1 a2:Int)(a3:Bool)(a4:Int)(a5:NL)(a6 a7 a8:Int)(r:Int×NL×Int×Int×Bool)(ins outs:BL):CallA:=⟨2,ins,qs6_ a0 a1 a2 a3 a4 a5 a6 a7 a8 r,qs7_ a0 a1 a2 a3 a4 a5 a6 a7 a8 r,outs⟩
def qfx_ (n:Nat)(a0 a1 a2:Int)(a3:Bool)(a4:Int)(a5:NL)(a6 a7 a8:Int):Option (Int×NL×Int×Int×Bool):=
 (qfc_ n a4 a5 a6 a7 a8).bind fun c1_=>
 if c1_=true then
  if a3=true then
   if a7≤a2 then
    some (a0,nl0,a1,a2,a3)
   else
    some (a4,a5,a6,a7,true)
  else
   some (a4,a5,a6,a7,true)
 else
  some (a0,nl0,a1,a2,a3)
theorem qv8_ (n:Nat)(a0 a1 a2:Int)(a3:Bool)(a4:Int)(a5:NL)(a6 a7 a8:Int)(r:Int×NL×Int×Int×Bool)(h:qfx_ n a0 a1 a2 a3 a4 a5 a6 a7 a8=some r):qzp_ a0 a1 a2 a3 a4 a5 a6 a7 a8 r:=by
 unfold qfx_ at h
 obtain⟨c1_,hc1,h⟩:=oB h
 have k0:=fun {A L l} (k:PL A L l)=>yy 9 (.call (qrt_ a4 a5 a6 a7 a8 c1_ [] [])) <|
  ww (qnu_ n a4 a5 a6 a7 a8 c1_ hc1) <|
  k
 by_cases hc2:c1_=true
 ·rw[if_pos hc2] at h
  have k2:=fun {A L l} (k:PL A L l)=>yy 10 (vf) <|
   ww (p:=(Value.bool (!c1_))=(Value.bool false)) (vBn hc2) <|
   k
  by_cases hc3:a3=true
  ·rw[if_pos hc3] at h
   have k4:=fun {A L l} (k:PL A L l)=>zz 14 (xbT hc3) <|
    k
   by_cases hc4:a7≤a2
   ·rw[if_pos hc4] at h
    obtain rfl:=oI h
    exact runF2 hm ⟨[6],[(2,4,false)],3,2,[],true,[187],[],[]⟩ (k0 <|
     k2 <|
     k4 <|
     zz 20 (xdT hc4) <|
     ee) (by kernel_rfl)
   ·rw[if_neg hc4] at h
    obtain rfl:=oI h
    exact runF2 hm ⟨[6],[(2,4,false)],3,2,[],true,[187],[],[]⟩ (k0 <|
     k2 <|
     k4 <|
     zz 20 (xdF hc4) <|
     ee) (by kernel_rfl)
  ·rw[if_neg hc3] at h
   obtain rfl:=oI h
   exact runF2 hm ⟨[6],[(2,4,false)],3,2,[],true,[187],[],[]⟩ (k0 <|
    k2 <|
    zz 14 (xbF hc3) <|
    ee) (by kernel_rfl)
 ·rw[if_neg hc2] at h
  obtain rfl:=oI h
  exact runF2 hm ⟨[6],[(2,4,false)],3,2,[],true,[187],[],[]⟩ (k0 <|
   yy 10 (vt) <|
   ww (p:=(Value.bool (!c1_))=(Value.bool true)) (vBn (Bool.eq_false_iff.2 hc2)) <|
   ee) (by kernel_rfl)

def qgq_ (a0 a1 a2:Int)(a3:Bool)(a4 a5 a6 a7:Int)(a8:Bool)(a9:WL rw_iLii)(a10:Int)(a11:NL)(a12 a13:Int)(r:Int×NL×Int×Int×Bool):Value:=match r with
 | (o0,o1,o2,o3,o4)=>(bO true)
def qgr_ (a0 a1 a2:Int)(a3:Bool)(a4 a5 a6 a7:Int)(a8:Bool)(a9:WL rw_iLii)(a10:Int)(a11:NL)(a12 a13:Int)(r:Int×NL×Int×Int×Bool):AH:=match r with
 | (o0,o1,o2,o3,o4)=>⟨sB [(0,(some (rblk P 103 [false,true,false,true] .ready none [(4,(pN 2 0)),(5,(pN 3 0)),(6,(pN 6 0)),(8,(Value.func (.func 120) #[] #[(pN 7 0)]))] 1))),(1,(some (.marks true))),(2,(cB [(i6 o0),(nlV o1),(i6 o2),(i6 o3),(bO o4)] 187)),(3,(cB [(Value.func (.func 105) #[] #[(pN 4 0),(pN 5 0)])] 192)),(4,(cB [(i6 a4)] 3)),(5,(cB [(Value.slice none 0 0)] 28)),(6,(cB [(i6 a5),(Value.slice none 0 0),(i6 a6),(i6 a7),(bO a8)] 187)),(7,(cB [(wlV a9)] 23))],8,0⟩
abbrev qmz_ (a0 a1 a2:Int)(a3:Bool)(a4 a5 a6 a7:Int)(a8:Bool)(a9:WL rw_iLii)(a10:Int)(a11:NL)(a12 a13:Int)(r:Int×NL×Int×Int×Bool):Prop:=Gv P (.yield 0) [(Value.agg #[(i6 a10),(nlV a11),(i6 a12),(i6 a13)])] ⟨sB [(0,(some (rblk P 103 [false,true,false,true] .ready none [(4,(pN 2 0)),(5,(pN 3 0)),(6,(pN 6 0)),(8,(Value.func (.func 120) #[] #[(pN 7 0)]))] 1))),(1,(some (.marks true))),(2,(cB [(i6 a0),(Value.slice none 0 0),(i6 a1),(i6 a2),(bO a3)] 187)),(3,(cB [(Value.func (.func 105) #[] #[(pN 4 0),(pN 5 0)])] 192)),(4,(cB [(i6 a4)] 3)),(5,(cB [(Value.slice none 0 0)] 28)),(6,(cB [(i6 a5),(Value.slice none 0 0),(i6 a6),(i6 a7),(bO a8)] 187)),(7,(cB [(wlV a9)] 23))],8,8⟩ (qgq_ a0 a1 a2 a3 a4 a5 a6 a7 a8 a9 a10 a11 a12 a13 r) (qgr_ a0 a1 a2 a3 a4 a5 a6 a7 a8 a9 a10 a11 a12 a13 r)
abbrev qm0_ (a0 a1 a2:Int)(a3:Bool)(a4 a5 a6 a7:Int)(a8:Bool)(a9:WL rw_iLii)(a10:Int)(a11:NL)(a12 a13:Int)(r:Int×NL×Int×Int×Bool)(ins outs:BL):CallA:=⟨8,ins,qgq_ a0 a1 a2 a3 a4 a5 a6 a7 a8 a9 a10 a11 a12 a13 r,qgr_ a0 a1 a2 a3 a4 a5 a6 a7 a8 a9 a10 a11 a12 a13 r,outs⟩
def qcz_ (n:Nat)(a0 a1 a2:Int)(a3:Bool)(a4 a5 a6 a7:Int)(a8:Bool)(a9:WL rw_iLii)(a10:Int)(a11:NL)(a12 a13:Int):Option (Int×NL×Int×Int×Bool):=
 (qfx_ n a0 a1 a2 a3 a10 a11 a12 a13 a4).bind fun t=>match t with
 | (c1_0,c1_1,c1_2,c1_3,c1_4)=>
  some (c1_0,c1_1,c1_2,c1_3,c1_4)
theorem qk1_ (n:Nat)(a0 a1 a2:Int)(a3:Bool)(a4 a5 a6 a7:Int)(a8:Bool)(a9:WL rw_iLii)(a10:Int)(a11:NL)(a12 a13:Int)(r:Int×NL×Int×Int×Bool)(h:qcz_ n a0 a1 a2 a3 a4 a5 a6 a7 a8 a9 a10 a11 a12 a13=some r):qmz_ a0 a1 a2 a3 a4 a5 a6 a7 a8 a9 a10 a11 a12 a13 r:=by
 unfold qcz_ at h
 obtain⟨⟨c1_0,c1_1,c1_2,c1_3,c1_4⟩,hc1,h⟩:=oB h
 dsimp only at h
 obtain rfl:=oI h
 exact runY2 hm (kW [] (iD 8) 8 0) (ee) (yy 4 (.call (qzq_ a0 a1 a2 a3 a10 a11 a12 a13 a4 (c1_0,c1_1,c1_2,c1_3,c1_4) [(0,4,false),(1,5,false)] [(9,2,false)])) <|
  ww (qv8_ n a0 a1 a2 a3 a10 a11 a12 a13 a4 (c1_0,c1_1,c1_2,c1_3,c1_4) hc1) <|
  ee) (by kernel_rfl)

def qs8_ (a0:Int)(a1:NL)(a2 a3:Int)(a4:Bool)(a5:Int)(a6:NL)(a7 a8 a9:Int)(r:Int×NL×Int×Int×Bool):Value:=match r with
 | (o0,o1,o2,o3,o4)=>(Value.agg #[(i6 o0),(nlV o1),(i6 o2),(i6 o3),(bO o4)])
def qs9_ (a0:Int)(a1:NL)(a2 a3:Int)(a4:Bool)(a5:Int)(a6:NL)(a7 a8 a9:Int)(r:Int×NL×Int×Int×Bool):AH:=match r with
 | (o0,o1,o2,o3,o4)=>⟨sB [(2,(cB [(i6 o0),(nlV o1),(i6 o2),(i6 o3),(bO o4)] 187))],3,2⟩
abbrev qzr_ (a0:Int)(a1:NL)(a2 a3:Int)(a4:Bool)(a5:Int)(a6:NL)(a7 a8 a9:Int)(r:Int×NL×Int×Int×Bool):Prop:=Gv P (.func 105) [(Value.agg #[(i6 a0),(nlV a1),(i6 a2),(i6 a3),(bO a4)]),(Value.agg #[(i6 a5),(nlV a6),(i6 a7),(i6 a8)]),(pN 0 0),(pN 1 0)] ⟨sB [(0,(cB [(i6 a9)] 3)),(1,(cB [(Value.slice none 0 0)] 28))],2,2⟩ (qs8_ a0 a1 a2 a3 a4 a5 a6 a7 a8 a9 r) (qs9_ a0 a1 a2 a3 a4 a5 a6 a7 a8 a9 r)
abbrev qzs_ (a0:Int)(a1:NL)(a2 a3:Int)(a4:Bool)(a5:Int)(a6:NL)(a7 a8 a9:Int)(r:Int×NL×Int×Int×Bool)(ins outs:BL):CallA:=⟨2,ins,qs8_ a0 a1 a2 a3 a4 a5 a6 a7 a8 a9 r,qs9_ a0 a1 a2 a3 a4 a5 a6 a7 a8 a9 r,outs⟩
def qfy_ (n:Nat)(a0:Int)(a1:NL)(a2 a3:Int)(a4:Bool)(a5:Int)(a6:NL)(a7 a8 a9:Int):Option (Int×NL×Int×Int×Bool):=
 (qfc_ n a5 a6 a7 a8 a9).bind fun c1_=>
 if c1_=true then
  if a4=true then
   if a8≤a3 then
    some (a0,a1,a2,a3,a4)
   else
    some (a5,a6,a7,a8,true)
  else
   some (a5,a6,a7,a8,true)
 else
  some (a0,a1,a2,a3,a4)
theorem qv9_ (n:Nat)(a0:Int)(a1:NL)(a2 a3:Int)(a4:Bool)(a5:Int)(a6:NL)(a7 a8 a9:Int)(r:Int×NL×Int×Int×Bool)(h:qfy_ n a0 a1 a2 a3 a4 a5 a6 a7 a8 a9=some r):qzr_ a0 a1 a2 a3 a4 a5 a6 a7 a8 a9 r:=by
 unfold qfy_ at h
 obtain⟨c1_,hc1,h⟩:=oB h
 have k0:=fun {A L l} (k:PL A L l)=>yy 9 (.call (qrt_ a5 a6 a7 a8 a9 c1_ [] [])) <|
  ww (qnu_ n a5 a6 a7 a8 a9 c1_ hc1) <|
  k
 by_cases hc2:c1_=true
 ·rw[if_pos hc2] at h
  have k2:=fun {A L l} (k:PL A L l)=>yy 10 (vf) <|
   ww (p:=(Value.bool (!c1_))=(Value.bool false)) (vBn hc2) <|
   k
  by_cases hc3:a4=true
  ·rw[if_pos hc3] at h
   have k4:=fun {A L l} (k:PL A L l)=>zz 14 (xbT hc3) <|
    k
   by_cases hc4:a8≤a3
   ·rw[if_pos hc4] at h
    obtain rfl:=oI h
    exact runF2 hm (kW [6] [(2,4,false)] 3 2) (k0 <|
     k2 <|
     k4 <|
     zz 20 (xdT hc4) <|
     ee) (by kernel_rfl)
   ·rw[if_neg hc4] at h
    obtain rfl:=oI h
    exact runF2 hm (kW [6] [(2,4,false)] 3 2) (k0 <|
     k2 <|
     k4 <|
     zz 20 (xdF hc4) <|
     ee) (by kernel_rfl)
  ·rw[if_neg hc3] at h
   obtain rfl:=oI h
   exact runF2 hm (kW [6] [(2,4,false)] 3 2) (k0 <|
    k2 <|
    zz 14 (xbF hc3) <|
    ee) (by kernel_rfl)
 ·rw[if_neg hc2] at h
  obtain rfl:=oI h
  exact runF2 hm (kW [6] [(2,4,false)] 3 2) (k0 <|
   yy 10 (vt) <|
   ww (p:=(Value.bool (!c1_))=(Value.bool true)) (vBn (Bool.eq_false_iff.2 hc2)) <|
   ee) (by kernel_rfl)

def qgs_ (a0:Int)(a1:NL)(a2 a3:Int)(a4:Bool)(a5 a6 a7 a8:Int)(a9:Bool)(a10:WL rw_iLii)(a11:Int)(a12:NL)(a13 a14:Int)(r:Int×NL×Int×Int×Bool):Value:=match r with
 | (o0,o1,o2,o3,o4)=>(bO true)
def qgt_ (a0:Int)(a1:NL)(a2 a3:Int)(a4:Bool)(a5 a6 a7 a8:Int)(a9:Bool)(a10:WL rw_iLii)(a11:Int)(a12:NL)(a13 a14:Int)(r:Int×NL×Int×Int×Bool):AH:=match r with
 | (o0,o1,o2,o3,o4)=>⟨sB [(0,(some (rblk P 103 [false,true,false,true] .ready none [(4,(pN 2 0)),(5,(pN 3 0)),(6,(pN 6 0)),(8,(Value.func (.func 120) #[] #[(pN 7 0)]))] 1))),(1,(some (.marks true))),(2,(cB [(i6 o0),(nlV o1),(i6 o2),(i6 o3),(bO o4)] 187)),(3,(cB [(Value.func (.func 105) #[] #[(pN 4 0),(pN 5 0)])] 192)),(4,(cB [(i6 a5)] 3)),(5,(cB [(Value.slice none 0 0)] 28)),(6,(cB [(i6 a6),(Value.slice none 0 0),(i6 a7),(i6 a8),(bO a9)] 187)),(7,(cB [(wlV a10)] 23))],8,0⟩
abbrev qm1_ (a0:Int)(a1:NL)(a2 a3:Int)(a4:Bool)(a5 a6 a7 a8:Int)(a9:Bool)(a10:WL rw_iLii)(a11:Int)(a12:NL)(a13 a14:Int)(r:Int×NL×Int×Int×Bool):Prop:=Gv P (.yield 0) [(Value.agg #[(i6 a11),(nlV a12),(i6 a13),(i6 a14)])] ⟨sB [(0,(some (rblk P 103 [false,true,false,true] .ready none [(4,(pN 2 0)),(5,(pN 3 0)),(6,(pN 6 0)),(8,(Value.func (.func 120) #[] #[(pN 7 0)]))] 1))),(1,(some (.marks true))),(2,(cB [(i6 a0),(nlV a1),(i6 a2),(i6 a3),(bO a4)] 187)),(3,(cB [(Value.func (.func 105) #[] #[(pN 4 0),(pN 5 0)])] 192)),(4,(cB [(i6 a5)] 3)),(5,(cB [(Value.slice none 0 0)] 28)),(6,(cB [(i6 a6),(Value.slice none 0 0),(i6 a7),(i6 a8),(bO a9)] 187)),(7,(cB [(wlV a10)] 23))],8,8⟩ (qgs_ a0 a1 a2 a3 a4 a5 a6 a7 a8 a9 a10 a11 a12 a13 a14 r) (qgt_ a0 a1 a2 a3 a4 a5 a6 a7 a8 a9 a10 a11 a12 a13 a14 r)
abbrev qm2_ (a0:Int)(a1:NL)(a2 a3:Int)(a4:Bool)(a5 a6 a7 a8:Int)(a9:Bool)(a10:WL rw_iLii)(a11:Int)(a12:NL)(a13 a14:Int)(r:Int×NL×Int×Int×Bool)(ins outs:BL):CallA:=⟨8,ins,qgs_ a0 a1 a2 a3 a4 a5 a6 a7 a8 a9 a10 a11 a12 a13 a14 r,qgt_ a0 a1 a2 a3 a4 a5 a6 a7 a8 a9 a10 a11 a12 a13 a14 r,outs⟩
def qc0_ (n:Nat)(a0:Int)(a1:NL)(a2 a3:Int)(a4:Bool)(a5 a6 a7 a8:Int)(a9:Bool)(a10:WL rw_iLii)(a11:Int)(a12:NL)(a13 a14:Int):Option (Int×NL×Int×Int×Bool):=
 (qfy_ n a0 a1 a2 a3 a4 a11 a12 a13 a14 a5).bind fun t=>match t with
 | (c1_0,c1_1,c1_2,c1_3,c1_4)=>
  some (c1_0,c1_1,c1_2,c1_3,c1_4)
theorem qk2_ (n:Nat)(a0:Int)(a1:NL)(a2 a3:Int)(a4:Bool)(a5 a6 a7 a8:Int)(a9:Bool)(a10:WL rw_iLii)(a11:Int)(a12:NL)(a13 a14:Int)(r:Int×NL×Int×Int×Bool)(h:qc0_ n a0 a1 a2 a3 a4 a5 a6 a7 a8 a9 a10 a11 a12 a13 a14=some r):qm1_ a0 a1 a2 a3 a4 a5 a6 a7 a8 a9 a10 a11 a12 a13 a14 r:=by
 unfold qc0_ at h
 obtain⟨⟨c1_0,c1_1,c1_2,c1_3,c1_4⟩,hc1,h⟩:=oB h
 dsimp only at h
 obtain rfl:=oI h
 exact runY2 hm (kW [] (iD 8) 8 0) (ee) (yy 4 (.call (qzs_ a0 a1 a2 a3 a4 a11 a12 a13 a14 a5 (c1_0,c1_1,c1_2,c1_3,c1_4) [(0,4,false),(1,5,false)] [(9,2,false)])) <|
  ww (qv9_ n a0 a1 a2 a3 a4 a11 a12 a13 a14 a5 (c1_0,c1_1,c1_2,c1_3,c1_4) hc1) <|
  ee) (by kernel_rfl)

def qja_ (a0 a1 a2:Int)(a3:Bool)(a4 a5 a6 a7:Int)(a8:Bool)(a9:WL rw_iLii)(r:Int×List (NL)×Int×Int×Bool):Value:=match r with
 | (o0,o1,o2,o3,o4)=>(Value.tuple #[])
def qjb_ (a0 a1 a2:Int)(a3:Bool)(a4 a5 a6 a7:Int)(a8:Bool)(a9:WL rw_iLii)(r:Int×List (NL)×Int×Int×Bool):AH:=match r with
 | (o0,o1,o2,o3,o4)=>⟨sB [(0,(some (rblk P 103 [false,true,false,true] .ready none [(4,(pN 2 0)),(5,(pN 3 0)),(6,(pN 6 0)),(8,(Value.func (.func 120) #[] #[(pN 7 0)]))] 1))),(1,(some (.marks true))),(2,(cB [(i6 o0),(nlQ o1),(i6 o2),(i6 o3),(bO o4)] 187)),(3,(cB [(Value.func (.func 105) #[] #[(pN 4 0),(pN 5 0)])] 192)),(4,(cB [(i6 a4)] 3)),(5,(cB [(Value.slice none 0 0)] 28)),(6,(cB [(i6 a5),(Value.slice none 0 0),(i6 a6),(i6 a7),(bO a8)] 187)),(7,(cB [(wlV a9)] 23))],8,0⟩
abbrev qp3_ (a0 a1 a2:Int)(a3:Bool)(a4 a5 a6 a7:Int)(a8:Bool)(a9:WL rw_iLii)(r:Int×List (NL)×Int×Int×Bool):Prop:=Gv P (.func 120) [(Value.func (.yield 0) #[] #[]),(pN 7 0)] ⟨sB [(0,(some (rblk P 103 [false,true,false,true] .ready none [(4,(pN 2 0)),(5,(pN 3 0)),(6,(pN 6 0)),(8,(Value.func (.func 120) #[] #[(pN 7 0)]))] 1))),(1,(some (.marks true))),(2,(cB [(i6 a0),(Value.slice none 0 0),(i6 a1),(i6 a2),(bO a3)] 187)),(3,(cB [(Value.func (.func 105) #[] #[(pN 4 0),(pN 5 0)])] 192)),(4,(cB [(i6 a4)] 3)),(5,(cB [(Value.slice none 0 0)] 28)),(6,(cB [(i6 a5),(Value.slice none 0 0),(i6 a6),(i6 a7),(bO a8)] 187)),(7,(cB [(wlV a9)] 23))],8,8⟩ (qja_ a0 a1 a2 a3 a4 a5 a6 a7 a8 a9 r) (qjb_ a0 a1 a2 a3 a4 a5 a6 a7 a8 a9 r)
abbrev qjc_ (a0 a1 a2:Int)(a3:Bool)(a4 a5 a6 a7:Int)(a8:Bool)(a9:WL rw_iLii)(r:Int×List (NL)×Int×Int×Bool)(ins outs:BL):CallA:=⟨8,ins,qja_ a0 a1 a2 a3 a4 a5 a6 a7 a8 a9 r,qjb_ a0 a1 a2 a3 a4 a5 a6 a7 a8 a9 r,outs⟩
def qdk_ (x5 x6 x7 x8:Int)(x9:Bool)(x10:WL rw_iLii)(x11:Int)(st:Int×List (NL)×Int×Int×Bool×Int):XSt:=match st with
 | (x0,x1,x2,x3,x4,x12)=>(sT 16 [(0,(Value.func (.yield 0) #[] #[])),(5,(wlV x10)),(6,(i6 x11)),(7,(i6 x12))],[],⟨sB [(0,(some (rblk P 103 [false,true,false,true] .ready none [(4,(pN 2 0)),(5,(pN 3 0)),(6,(pN 6 0)),(8,(Value.func (.func 120) #[] #[(pN 7 0)]))] 1))),(1,(some (.marks true))),(2,(cB [(i6 x0),(nlQ x1),(i6 x2),(i6 x3),(bO x4)] 187)),(3,(cB [(Value.func (.func 105) #[] #[(pN 4 0),(pN 5 0)])] 192)),(4,(cB [(i6 x5)] 3)),(5,(cB [(Value.slice none 0 0)] 28)),(6,(cB [(i6 x6),(Value.slice none 0 0),(i6 x7),(i6 x8),(bO x9)] 187)),(7,(cB [(wlV x10)] 23))],8,0⟩)
def q8_ (x5 x6 x7 x8:Int)(x9:Bool)(x10:WL rw_iLii)(x11:Int)(r:Int×List (NL)×Int×Int×Bool):Ex×XSt:=match r with
 | (z0,z1,z2,z3,z4)=>(.exit 0,(sT 16 [],[],⟨sB [(0,(some (rblk P 103 [false,true,false,true] .ready none [(4,(pN 2 0)),(5,(pN 3 0)),(6,(pN 6 0)),(8,(Value.func (.func 120) #[] #[(pN 7 0)]))] 1))),(1,(some (.marks true))),(2,(cB [(i6 z0),(nlQ z1),(i6 z2),(i6 z3),(bO z4)] 187)),(3,(cB [(Value.func (.func 105) #[] #[(pN 4 0),(pN 5 0)])] 192)),(4,(cB [(i6 x5)] 3)),(5,(cB [(Value.slice none 0 0)] 28)),(6,(cB [(i6 x6),(Value.slice none 0 0),(i6 x7),(i6 x8),(bO x9)] 187)),(7,(cB [(wlV x10)] 23))],8,0⟩))
abbrev qoc_ (rnd:Option Nat)(x5 x6 x7 x8:Int)(x9:Bool)(x10:WL rw_iLii)(x11:Int)(st:Int×List (NL)×Int×Int×Bool×Int)(c:Ex×XSt):Prop:=CG P rnd (fnN P 120) 8 (qx_ P 120 [false,false,true]) (qdk_ x5 x6 x7 x8 x9 x10 x11 st) c
abbrev qod_ (rd:Option Nat)(x5 x6 x7 x8:Int)(x9:Bool)(x10:WL rw_iLii)(x11:Int)(st:Int×List (NL)×Int×Int×Bool×Int)(r:Int×List (NL)×Int×Int×Bool):Prop:=CG P rd (fnN P 120) 8 (qx_ P 120 [false,true]) (qdk_ x5 x6 x7 x8 x9 x10 x11 st) (q8_ x5 x6 x7 x8 x9 x10 x11 r)
def q9_ (n:Nat)(x5 x6 x7 x8:Int)(x9:Bool)(x10:WL rw_iLii)(x11:Int)(st:Int×List (NL)×Int×Int×Bool×Int):Option ((Int×List (NL)×Int×Int×Bool×Int) ⊕ (Int×List (NL)×Int×Int×Bool)):=match st with
 | (x0,x1,x2,x3,x4,x12)=>
  match x1 with
  | []=>
   if x12<x11 then
    if 0≤x12∧x12<(((x10).l.length:Nat):Int) then
     ((some (((x10).l).getD (x12).toNat (0,nl0,0,0)))).bind fun y3_=>
     (qcz_ n x0 x2 x3 x4 x5 x6 x7 x8 x9 x10 (y3_.1) (y3_.2.1) (y3_.2.2.1) (y3_.2.2.2)).bind fun t=>match t with
     | (y4_0,y4_1,y4_2,y4_3,y4_4)=>
      some (.inl (y4_0,[y4_1],y4_2,y4_3,y4_4,(w64 (x12+1))))
    else none
   else
    some (.inr (x0,([]:List (NL)),x2,x3,x4))
  | x1a::x1t=>
   if x12<x11 then
    if 0≤x12∧x12<(((x10).l.length:Nat):Int) then
     ((some (((x10).l).getD (x12).toNat (0,nl0,0,0)))).bind fun y3_=>
     (qc0_ n x0 x1a x2 x3 x4 x5 x6 x7 x8 x9 x10 (y3_.1) (y3_.2.1) (y3_.2.2.1) (y3_.2.2.2)).bind fun t=>match t with
     | (y4_0,y4_1,y4_2,y4_3,y4_4)=>
      some (.inl (y4_0,[y4_1],y4_2,y4_3,y4_4,(w64 (x12+1))))
    else none
   else
    some (.inr (x0,[x1a],x2,x3,x4))
def qe9_ (n:Nat)(x5 x6 x7 x8:Int)(x9:Bool)(x10:WL rw_iLii)(x11:Int)(st:Int×List (NL)×Int×Int×Bool×Int):Option (Int×List (NL)×Int×Int×Bool):=iterM (q9_ n x5 x6 x7 x8 x9 x10 x11) n st
theorem qhq_ (n:Nat){rnd:Option Nat}(x5 x6 x7 x8:Int)(x9:Bool)(x10:WL rw_iLii)(x11:Int)(st:Int×List (NL)×Int×Int×Bool×Int)(o:(Int×List (NL)×Int×Int×Bool×Int) ⊕ (Int×List (NL)×Int×Int×Bool))(h:q9_ n x5 x6 x7 x8 x9 x10 x11 st=some o):qoc_ rnd x5 x6 x7 x8 x9 x10 x11 st (Sum.elim (fun s=>(.normal,qdk_ x5 x6 x7 x8 x9 x10 x11 s)) (fun r=>q8_ x5 x6 x7 x8 x9 x10 x11 r) o):=by
 obtain⟨x0,x1,x2,x3,x4,x12⟩:=st
 unfold q9_ at h
 dsimp only at h
 cases x1 with
 | nil=>
  dsimp only at h
  by_cases hy1:x12<x11
  ·rw[if_pos hy1] at h
   obtain⟨hy2,h⟩:=gd h
   obtain⟨y3_,hy3,h⟩:=oB h
   obtain⟨⟨y4_0,y4_1,y4_2,y4_3,y4_4⟩,hy4,h⟩:=oB h
   dsimp only at h
   obtain rfl:=oI h
   exact runC2 hm (kW [0,5,6,7] (iD 8) 8 0) (zz 1 (xdT hy1) <|
    zz 7 (xk3 (x10).num (x10).off (x10).cap hy2) <|
    zz 8 (lk27 hy3 (qw_ hy2)) <|
    yy 14 (.call (qm0_ x0 x2 x3 x4 x5 x6 x7 x8 x9 x10 (y3_.1) (y3_.2.1) (y3_.2.2.1) (y3_.2.2.2) (y4_0,y4_1,y4_2,y4_3,y4_4) (iD 8) (iD 8))) <|
    ww (qk1_ n x0 x2 x3 x4 x5 x6 x7 x8 x9 x10 (y3_.1) (y3_.2.1) (y3_.2.2.1) (y3_.2.2.2) (y4_0,y4_1,y4_2,y4_3,y4_4) hy4) <|
    ee) (by kernel_rfl)
  ·rw[if_neg hy1] at h
   obtain rfl:=oI h
   exact runC2 hm (kW [] (iD 8) 8 0) (zz 1 (xdF hy1) <|
    ee) (by kernel_rfl)
 | cons x1a x1t=>
  dsimp only at h
  by_cases hy1:x12<x11
  ·rw[if_pos hy1] at h
   obtain⟨hy2,h⟩:=gd h
   obtain⟨y3_,hy3,h⟩:=oB h
   obtain⟨⟨y4_0,y4_1,y4_2,y4_3,y4_4⟩,hy4,h⟩:=oB h
   dsimp only at h
   obtain rfl:=oI h
   exact runC2 hm (kW [0,5,6,7] (iD 8) 8 0) (zz 1 (xdT hy1) <|
    zz 7 (xk3 (x10).num (x10).off (x10).cap hy2) <|
    zz 8 (lk27 hy3 (qw_ hy2)) <|
    yy 14 (.call (qm2_ x0 x1a x2 x3 x4 x5 x6 x7 x8 x9 x10 (y3_.1) (y3_.2.1) (y3_.2.2.1) (y3_.2.2.2) (y4_0,y4_1,y4_2,y4_3,y4_4) (iD 8) (iD 8))) <|
    ww (qk2_ n x0 x1a x2 x3 x4 x5 x6 x7 x8 x9 x10 (y3_.1) (y3_.2.1) (y3_.2.2.1) (y3_.2.2.2) (y4_0,y4_1,y4_2,y4_3,y4_4) hy4) <|
    ee) (by kernel_rfl)
  ·rw[if_neg hy1] at h
   obtain rfl:=oI h
   exact runC2 hm (kW [] (iD 8) 8 0) (zz 1 (xdF hy1) <|
    ee) (by kernel_rfl)
theorem qgh_ (n:Nat){rnd:Option Nat}(x5 x6 x7 x8:Int)(x9:Bool)(x10:WL rw_iLii)(x11:Int)(st:Int×List (NL)×Int×Int×Bool×Int)(r:Int×List (NL)×Int×Int×Bool)(h:qe9_ n x5 x6 x7 x8 x9 x10 x11 st=some r):qod_ rnd x5 x6 x7 x8 x9 x10 x11 st r:=
 CG.iter (b:=qx_ P 120 [false,false,true]) (by kernel_rfl) (body:=q9_ n x5 x6 x7 x8 x9 x10 x11) (S:=qdk_ x5 x6 x7 x8 x9 x10 x11) (X:=q8_ x5 x6 x7 x8 x9 x10 x11)
  (fun s s' h=>qhq_ n x5 x6 x7 x8 x9 x10 x11 s (.inl s') h)
  (fun s r h=>qhq_ n x5 x6 x7 x8 x9 x10 x11 s (.inr r) h)
  (fun r=>by intro hx; cases hx) h
def qea_ (n:Nat)(a0 a1 a2:Int)(a3:Bool)(a4 a5 a6 a7:Int)(a8:Bool)(a9:WL rw_iLii):Option (Int×List (NL)×Int×Int×Bool):=
 (qe9_ n a4 a5 a6 a7 a8 a9 (((a9).l.length:Nat):Int) (a0,([]:List (NL)),a1,a2,a3,0)).bind fun t=>match t with
 | (c1_0,c1_1,c1_2,c1_3,c1_4)=>
  match c1_1 with
  | []=>
   some (c1_0,([]:List (NL)),c1_2,c1_3,c1_4)
  | c1_1a::c1_1t=>
   some (c1_0,[c1_1a],c1_2,c1_3,c1_4)
theorem qhb_ (n:Nat)(a0 a1 a2:Int)(a3:Bool)(a4 a5 a6 a7:Int)(a8:Bool)(a9:WL rw_iLii)(r:Int×List (NL)×Int×Int×Bool)(h:qea_ n a0 a1 a2 a3 a4 a5 a6 a7 a8 a9=some r):qp3_ a0 a1 a2 a3 a4 a5 a6 a7 a8 a9 r:=by
 unfold qea_ at h
 obtain⟨⟨c1_0,c1_1,c1_2,c1_3,c1_4⟩,hc1,h⟩:=oB h
 dsimp only at h
 cases c1_1 with
 | nil=>
  dsimp only at h
  obtain rfl:=oI h
  exact runF2 hm (kW [] (iD 8) 8 0) (ww (qgh_ n (rnd:=none) a4 a5 a6 a7 a8 a9 (((a9).l.length:Nat):Int) (a0,([]:List (NL)),a1,a2,a3,0) (c1_0,([]:List (NL)),c1_2,c1_3,c1_4) hc1) <|
   ll 5 ⟨(kW [0,5,6,7] (iD 8) 8 0),(q8_ a4 a5 a6 a7 a8 a9 (((a9).l.length:Nat):Int) (c1_0,([]:List (NL)),c1_2,c1_3,c1_4)).1,(q8_ a4 a5 a6 a7 a8 a9 (((a9).l.length:Nat):Int) (c1_0,([]:List (NL)),c1_2,c1_3,c1_4)).2⟩ <|
   ee) (by kernel_rfl)
 | cons c1_1a c1_1t=>
  dsimp only at h
  obtain rfl:=oI h
  exact runF2 hm (kW [] (iD 8) 8 0) (ww (qgh_ n (rnd:=none) a4 a5 a6 a7 a8 a9 (((a9).l.length:Nat):Int) (a0,([]:List (NL)),a1,a2,a3,0) (c1_0,(c1_1a::c1_1t),c1_2,c1_3,c1_4) hc1) <|
   ll 5 ⟨(kW [0,5,6,7] (iD 8) 8 0),(q8_ a4 a5 a6 a7 a8 a9 (((a9).l.length:Nat):Int) (c1_0,(c1_1a::c1_1t),c1_2,c1_3,c1_4)).1,(q8_ a4 a5 a6 a7 a8 a9 (((a9).l.length:Nat):Int) (c1_0,(c1_1a::c1_1t),c1_2,c1_3,c1_4)).2⟩ <|
   ee) (by kernel_rfl)

def qj5_ (a0:WL rw_iLii)(a1 a2 a3:Int)(a4:Bool)(a5:Int)(r:Int×List (NL)×Int×Int×Bool):Value:=match r with
 | (o0,o1,o2,o3,o4)=>(Value.agg #[(i6 o0),(nlQ o1),(i6 o2),(i6 o3),(bO o4)])
def qj6_ (a0:WL rw_iLii)(a1 a2 a3:Int)(a4:Bool)(a5:Int)(r:Int×List (NL)×Int×Int×Bool):AH:=match r with
 | (o0,o1,o2,o3,o4)=>⟨sB [(0,(cB [(wlV a0)] 23)),(1,(cB [(i6 a5)] 3)),(2,(cB [(Value.slice none 0 0)] 28)),(3,(some (.marks false))),(4,(cB [(i6 o0),(nlQ o1),(i6 o2),(i6 o3),(bO o4)] 187))],5,0⟩
abbrev qq8_ (a0:WL rw_iLii)(a1 a2 a3:Int)(a4:Bool)(a5:Int)(r:Int×List (NL)×Int×Int×Bool):Prop:=Gv P (.func 103) [(Value.func (.func 120) #[] #[(pN 0 0)]),(Value.agg #[(i6 a1),(Value.slice none 0 0),(i6 a2),(i6 a3),(bO a4)]),(Value.func (.func 105) #[] #[(pN 1 0),(pN 2 0)])] ⟨sB [(0,(cB [(wlV a0)] 23)),(1,(cB [(i6 a5)] 3)),(2,(cB [(Value.slice none 0 0)] 28))],3,3⟩ (qj5_ a0 a1 a2 a3 a4 a5 r) (qj6_ a0 a1 a2 a3 a4 a5 r)
abbrev qj7_ (a0:WL rw_iLii)(a1 a2 a3:Int)(a4:Bool)(a5:Int)(r:Int×List (NL)×Int×Int×Bool)(ins outs:BL):CallA:=⟨3,ins,qj5_ a0 a1 a2 a3 a4 a5 r,qj6_ a0 a1 a2 a3 a4 a5 r,outs⟩
def qex_ (n:Nat)(a0:WL rw_iLii)(a1 a2 a3:Int)(a4:Bool)(a5:Int):Option (Int×List (NL)×Int×Int×Bool):=
 (qea_ n a1 a2 a3 a4 a5 0 0 0 false a0).bind fun t=>match t with
 | (c1_0,c1_1,c1_2,c1_3,c1_4)=>
  match c1_1 with
  | []=>
   some (c1_0,([]:List (NL)),c1_2,c1_3,c1_4)
  | c1_1a::c1_1t=>
   some (c1_0,[c1_1a],c1_2,c1_3,c1_4)
theorem qhr_ (n:Nat)(a0:WL rw_iLii)(a1 a2 a3:Int)(a4:Bool)(a5:Int)(r:Int×List (NL)×Int×Int×Bool)(h:qex_ n a0 a1 a2 a3 a4 a5=some r):qq8_ a0 a1 a2 a3 a4 a5 r:=by
 unfold qex_ at h
 obtain⟨⟨c1_0,c1_1,c1_2,c1_3,c1_4⟩,hc1,h⟩:=oB h
 dsimp only at h
 cases c1_1 with
 | nil=>
  dsimp only at h
  obtain rfl:=oI h
  exact runF2 hm (kW [6] [(0,0,false),(1,1,false),(2,2,false),(3,6,false),(4,5,false)] 5 0) (yy 8 (.rng (qjc_ a1 a2 a3 a4 a5 0 0 0 false a0 (c1_0,([]:List (NL)),c1_2,c1_3,c1_4) [(0,7,false),(1,6,false),(2,3,false),(3,4,false),(4,1,false),(5,2,false),(6,5,false),(7,0,false)] [(7,0,false),(6,1,false),(3,2,false),(4,3,false),(1,4,false),(2,5,false),(5,6,false),(0,7,false)]) [4,5,6,8]) <|
   ww (qhb_ n a1 a2 a3 a4 a5 0 0 0 false a0 (c1_0,([]:List (NL)),c1_2,c1_3,c1_4) hc1) <|
   ee) (by kernel_rfl)
 | cons c1_1a c1_1t=>
  dsimp only at h
  obtain rfl:=oI h
  exact runF2 hm (kW [6] [(0,0,false),(1,1,false),(2,2,false),(3,6,false),(4,5,false)] 5 0) (yy 8 (.rng (qjc_ a1 a2 a3 a4 a5 0 0 0 false a0 (c1_0,(c1_1a::c1_1t),c1_2,c1_3,c1_4) [(0,7,false),(1,6,false),(2,3,false),(3,4,false),(4,1,false),(5,2,false),(6,5,false),(7,0,false)] [(7,0,false),(6,1,false),(3,2,false),(4,3,false),(1,4,false),(2,5,false),(5,6,false),(0,7,false)]) [4,5,6,8]) <|
   ww (qhb_ n a1 a2 a3 a4 a5 0 0 0 false a0 (c1_0,(c1_1a::c1_1t),c1_2,c1_3,c1_4) hc1) <|
   ee) (by kernel_rfl)

def qus_ (a0:WL rw_iLii)(a1 r:Int):Value:=match r with
 | o0=>(i6 o0)
def qut_ (a0:WL rw_iLii)(a1 r:Int):AH:=match r with
 | o0=>⟨sB [],0,0⟩
abbrev q0a_ (a0:WL rw_iLii)(a1 r:Int):Prop:=Gv P (.func 75) [(wlV a0),(i6 a1),(Value.slice none 0 0)] ⟨sB [],0,0⟩ (qus_ a0 a1 r) (qut_ a0 a1 r)
abbrev quu_ (a0:WL rw_iLii)(a1 r:Int)(ins outs:BL):CallA:=⟨0,ins,qus_ a0 a1 r,qut_ a0 a1 r,outs⟩
def qfn_ (n:Nat)(a0:WL rw_iLii)(a1:Int):Option (Int):=
 (qce_ n a0).bind fun _=>
 (qex_ n a0 0 0 0 false a1).bind fun t=>match t with
 | (c2_0,c2_1,c2_2,c2_3,c2_4)=>
  match c2_1 with
  | []=>
   some c2_2
  | c2_1a::c2_1t=>
   some c2_2
theorem qp4_ (n:Nat)(a0:WL rw_iLii)(a1 r:Int)(h:qfn_ n a0 a1=some r):q0a_ a0 a1 r:=by
 unfold qfn_ at h
 obtain⟨_,hc1,h⟩:=oB h
 obtain⟨⟨c2_0,c2_1,c2_2,c2_3,c2_4⟩,hc2,h⟩:=oB h
 dsimp only at h
 have k0:=fun {A L l} (k:PL A L l)=>yy 6 (.call (qj4_ a0 () [] [(2,0,false)])) <|
  ww (qhp_ n a0 () hc1) <|
  k
 cases c2_1 with
 | nil=>
  dsimp only at h
  obtain rfl:=oI h
  exact runF2 hm ⟨[6],[],0,0,[],true,[187],[],[]⟩ (k0 <|
   yy 9 (.call (qj7_ a0 0 0 0 false a1 (c2_0,([]:List (NL)),c2_2,c2_3,c2_4) [(0,2,false),(1,0,false),(2,1,false)] [(2,0,false),(0,1,false),(1,2,false),(4,4,false)])) <|
   ww (qhr_ n a0 0 0 0 false a1 (c2_0,([]:List (NL)),c2_2,c2_3,c2_4) hc2) <|
   ee) (by kernel_rfl)
 | cons c2_1a c2_1t=>
  dsimp only at h
  obtain rfl:=oI h
  exact runF2 hm (kW [6] [] 0 0) (k0 <|
   yy 9 (.call (qj7_ a0 0 0 0 false a1 (c2_0,(c2_1a::c2_1t),c2_2,c2_3,c2_4) [(0,2,false),(1,0,false),(2,1,false)] [(2,0,false),(0,1,false),(1,2,false),(4,4,false)])) <|
   ww (qhr_ n a0 0 0 0 false a1 (c2_0,(c2_1a::c2_1t),c2_2,c2_3,c2_4) hc2) <|
   ee) (by kernel_rfl)

def qkr_ (a0 r:List Int):Value:=match r with
 | o0=>(Value.tuple #[])
def qks_ (a0 r:List Int):AH:=match r with
 | o0=>⟨sB [(0,(cB (iv o0) 3))],1,0⟩
abbrev qr3_ (a0 r:List Int):Prop:=Gv P (.func 74) [(sN 0 0 (a0).length (Nat.add big 1))] ⟨sB [(0,(cB (iv a0) 3))],1,1⟩ (qkr_ a0 r) (qks_ a0 r)
abbrev qkt_ (a0 r:List Int)(ins outs:BL):CallA:=⟨1,ins,qkr_ a0 r,qks_ a0 r,outs⟩
def qeb_ (x1:Nat)(st:List Int×Int×Int):XSt:=match st with
 | (x0,x2,x3)=>(sT 28 [(0,(sN 0 0 x1 (Nat.add big 1))),(2,(i6 x2)),(3,(i6 x3))],[],⟨sB [(0,(cB (iv x0) 3))],1,0⟩)
def qcv_ (x1:Nat)(r:List Int):Ex×XSt:=match r with
 | z0=>(.exit 0,(sT 28 [],[],⟨sB [(0,(cB (iv z0) 3))],1,0⟩))
abbrev qp5_ (rnd:Option Nat)(x1:Nat)(st:List Int×Int×Int)(c:Ex×XSt):Prop:=CG P rnd (fnN P 74) 1 (qx_ P 74 [false,false,true]) (qeb_ x1 st) c
abbrev qp6_ (rd:Option Nat)(x1:Nat)(st:List Int×Int×Int)(r:List Int):Prop:=CG P rd (fnN P 74) 1 (qx_ P 74 [false,true]) (qeb_ x1 st) (qcv_ x1 r)
def qb7_ (n x1:Nat)(st:List Int×Int×Int):Option ((List Int×Int×Int) ⊕ (List Int)):=match st with
 | (x0,x2,x3)=>
  if x2<x3 then
   if 0≤x3∧x3<((x1:Nat):Int) then
    if (x3).toNat<(x0).length then
     ((some ((x0).getD (x3).toNat 0))).bind fun y4_=>
     if 0≤x2∧x2<((x1:Nat):Int) then
      if (x2).toNat<(x0).length then
       ((some ((x0).getD (x2).toNat 0))).bind fun y7_=>
       if (x3).toNat<(((x0).set (x2).toNat y4_)).length then
        some (.inl (((((x0).set (x2).toNat y4_)).set (x3).toNat y7_),(w64 (x2+1)),(w64 (x3-1))))
       else none
      else none
     else none
    else none
   else none
  else
   some (.inr x0)
def qfz_ (n x1:Nat)(st:List Int×Int×Int):Option (List Int):=iterM (qb7_ n x1) n st
theorem qjd_ (n:Nat){rnd:Option Nat}(x1:Nat)(st:List Int×Int×Int)(o:(List Int×Int×Int) ⊕ (List Int))(h:qb7_ n x1 st=some o):qp5_ rnd x1 st (Sum.elim (fun s=>(.normal,qeb_ x1 s)) (fun r=>qcv_ x1 r) o):=by
 obtain⟨x0,x2,x3⟩:=st
 unfold qb7_ at h
 dsimp only at h
 by_cases hy1:x2<x3
 ·rw[if_pos hy1] at h
  obtain⟨hy2,h⟩:=gd h
  obtain⟨hy3,h⟩:=gd h
  obtain⟨y4_,hy4,h⟩:=oB h
  obtain⟨hy5,h⟩:=gd h
  obtain⟨hy6,h⟩:=gd h
  obtain⟨y7_,hy7,h⟩:=oB h
  obtain⟨hy8,h⟩:=gd h
  obtain rfl:=oI h
  exact runC2 hm (kW [0,2,3] [(0,0,true)] 1 0) (zz 4 (xdT hy1) <|
   zz 14 (xk22 0 U1 hy2) <|
   zz 15 (xivN hy4 hy3) <|
   zz 18 (xk22 0 U1 hy5) <|
   zz 19 (xivN hy7 hy6) <|
   zz 20 (xk22 0 U1 hy5) <|
   z2 21 (stI (y4_) hy6) <|
   zz 22 (xk22 0 U1 hy2) <|
   z2 23 (stI (y7_) hy8) <|
   ww (qd_ ((((x0).set (x2).toNat y4_)).set (x3).toNat y7_) 3) <|
   ee) (by kernel_rfl)
 ·rw[if_neg hy1] at h
  obtain rfl:=oI h
  exact runC2 hm (kW [] [(0,0,true)] 1 0) (zz 4 (xdF hy1) <|
   ww (qd_ x0 3) <|
   ee) (by kernel_rfl)
theorem qnv_ (n:Nat){rnd:Option Nat}(x1:Nat)(st:List Int×Int×Int)(r:List Int)(h:qfz_ n x1 st=some r):qp6_ rnd x1 st r:=
 CG.iter (b:=qx_ P 74 [false,false,true]) (by kernel_rfl) (body:=qb7_ n x1) (S:=qeb_ x1) (X:=qcv_ x1)
  (fun s s' h=>qjd_ n x1 s (.inl s') h)
  (fun s r h=>qjd_ n x1 s (.inr r) h)
  (fun r=>by intro hx; cases hx) h
def qb2_ (n:Nat)(a0:List Int):Option (List Int):=
 ((some (w64 ((((a0).length:Nat):Int)-1)))).bind fun c1_=>
 (qfz_ n ((a0).length) (a0,0,c1_)).bind fun c2_=>
 some c2_
theorem qie_ (n:Nat)(a0 r:List Int)(h:qb2_ n a0=some r):qr3_ a0 r:=by
 unfold qb2_ at h
 obtain⟨c1_,hc1,h⟩:=oB h
 obtain⟨c2_,hc2,h⟩:=oB h
 obtain rfl:=oI h
 exact runF2 hm (kW [] [(0,0,true)] 1 0) (zz 3 (xnm hc1) <|
  ww (qnv_ n (rnd:=none) ((a0).length) (a0,0,c1_) c2_ hc2) <|
  ww (qd_ a0 3) <|
  ll 7 ⟨(kW [0,2,3] [(0,0,true)] 1 0),(qcv_ ((a0).length) c2_).1,(qcv_ ((a0).length) c2_).2⟩ <|
  ww (qd_ c2_ 3) <|
  ee) (by kernel_rfl)

def qmm_ (a0:List Int)(a1 a2:Nat)(a3:NL)(r:Bool):Value:=match r with
 | o0=>(bO o0)
def qmn_ (a0:List Int)(a1 a2:Nat)(a3:NL)(r:Bool):AH:=match r with
 | o0=>⟨sB [],1,1⟩
abbrev qt1_ (a0:List Int)(a1 a2:Nat)(a3:NL)(r:Bool):Prop:=Gv P (.func 127) [(sN 0 (a1*1) a2 (Nat.add big 1)),(nlV a3)] ⟨sB [(0,(cB (iv a0) 3))],1,1⟩ (qmm_ a0 a1 a2 a3 r) (qmn_ a0 a1 a2 a3 r)
abbrev qt2_ (a0:List Int)(a1 a2:Nat)(a3:NL)(r:Bool)(ins outs:BL):CallA:=⟨1,ins,qmm_ a0 a1 a2 a3 r,qmn_ a0 a1 a2 a3 r,outs⟩
def qe4_ (x0:List Int)(x1 x2:Nat)(x3:NL)(x4 st:Int):XSt:=match st with
 | x5=>(sT 26 [(0,(sN 0 (x1*1) x2 (Nat.add big 1))),(1,(nlV x3)),(12,(i6 x4)),(13,(i6 x5))],[],⟨sB [(0,(cB (iv x0) 3))],1,1⟩)
def qb3_ (x0:List Int)(x1 x2:Nat)(x3:NL)(x4:Int)(r:(Unit) ⊕ (Unit)):Ex×XSt:=match r with
 | .inl _=>(.ret,(sT 26 [(4,(bO false))],[],⟨sB [(0,(cB (iv x0) 3))],1,1⟩))
 | .inr _=>(.exit 0,(sT 26 [],[],⟨sB [(0,(cB (iv x0) 3))],1,1⟩))
abbrev qr4_ (rd:Option Nat)(x0:List Int)(x1 x2:Nat)(x3:NL)(x4 st:Int)(r:(Unit) ⊕ (Unit)):Prop:=CG P rd (fnN P 127) 1 (qx_ P 127 [false,true,false,true,true]) (qe4_ x0 x1 x2 x3 x4 st) (qb3_ x0 x1 x2 x3 x4 r)
def qb4_ (n:Nat)(x0:List Int)(x1 x2:Nat)(x3:NL)(x4 st:Int):Option ((Int) ⊕ ((Unit) ⊕ (Unit))):=match st with
 | x5=>
  if x5<x4 then
   if 0≤x5∧x5<((x2:Nat):Int) then
    if ((x1+(x5).toNat)*1)<(x0).length then
     ((some ((x0).getD ((x1+(x5).toNat)*1) 0))).bind fun y4_=>
     if 0≤x5∧x5<(((x3).l.length:Nat):Int) then
      if (x5).toNat<((x3).l).length then
       ((some (((x3).l).getD (x5).toNat 0))).bind fun y7_=>
       if y4_=y7_ then
        some (.inl (w64 (x5+1)))
       else
        some (.inr (.inl ()))
      else none
     else none
    else none
   else none
  else
   some (.inr (.inr ()))
def qe5_ (n:Nat)(x0:List Int)(x1 x2:Nat)(x3:NL)(x4 st:Int):Option ((Unit) ⊕ (Unit)):=iterM (qb4_ n x0 x1 x2 x3 x4) n st
theorem qku_ (n:Nat){rnd:Option Nat}(x0:List Int)(x1 x2:Nat)(x3:NL)(x4 x5:Int)(o:(Int) ⊕ ((Unit) ⊕ (Unit)))(h:qb4_ n x0 x1 x2 x3 x4 x5=some o):CG P rnd (fnN P 127) 1 (qx_ P 127 [false,false,true,false,true,true]) (qe4_ x0 x1 x2 x3 x4 x5) (Sum.elim (fun s=>(.normal,qe4_ x0 x1 x2 x3 x4 s)) (fun r=>qb3_ x0 x1 x2 x3 x4 r) o):=by
 unfold qb4_ at h
 dsimp only at h
 by_cases hy1:x5<x4
 ·rw[if_pos hy1] at h
  obtain⟨hy2,h⟩:=gd h
  obtain⟨hy3,h⟩:=gd h
  obtain⟨y4_,hy4,h⟩:=oB h
  obtain⟨hy5,h⟩:=gd h
  obtain⟨hy6,h⟩:=gd h
  obtain⟨y7_,hy7,h⟩:=oB h
  have k0:=fun {A L l} (k:PL A L l)=>zz 1 (xdT hy1) <|
   yy 12 (.pur (pN 0 ((x1+(x5).toNat)*1))) <|
   ww (p:=qdt_ P 28 (sN 0 (x1*1) x2 (Nat.add big 1)) (i6 x5) Ax.h0=some ((pN 0 ((x1+(x5).toNat)*1)),Ax.h0)) (ixSO (e:=3) (es:=1) x1 (by kernel_rfl) (by kernel_rfl) hy2) <|
   zz 13 (xivN hy4 hy3) <|
   zz 16 (xk12 (Nat.add (x3).num 64) (x3).off (x3).cap hy5) <|
   zz 17 (nk13 hy7 hy6) <|
   k
  by_cases hy8:y4_=y7_
  ·rw[if_pos hy8] at h
   obtain rfl:=oI h
   exact runC2 hm (kW [0,1,12,13] [(0,0,true)] 1 1) (k0 <|
    zz 18 (xnF hy8) <|
    ww (qd_ x0 3) <|
    ee) (by kernel_rfl)
  ·rw[if_neg hy8] at h
   obtain rfl:=oI h
   exact runC2 hm (kW [4] [(0,0,true)] 1 1) (k0 <|
    zz 18 (xnT hy8) <|
    ww (qd_ x0 3) <|
    ee) (by kernel_rfl)
 ·rw[if_neg hy1] at h
  obtain rfl:=oI h
  exact runC2 hm (kW [] [(0,0,true)] 1 1) (zz 1 (xdF hy1) <|
   ww (qd_ x0 3) <|
   ee) (by kernel_rfl)
theorem qif_ (n:Nat){rnd:Option Nat}(x0:List Int)(x1 x2:Nat)(x3:NL)(x4 st:Int)(r:(Unit) ⊕ (Unit))(h:qe5_ n x0 x1 x2 x3 x4 st=some r):qr4_ rnd x0 x1 x2 x3 x4 st r:=
 CG.iter (b:=qx_ P 127 [false,false,true,false,true,true]) (by kernel_rfl) (body:=qb4_ n x0 x1 x2 x3 x4) (S:=qe4_ x0 x1 x2 x3 x4) (X:=qb3_ x0 x1 x2 x3 x4)
  (fun s s' h=>qku_ n x0 x1 x2 x3 x4 s (.inl s') h)
  (fun s r h=>qku_ n x0 x1 x2 x3 x4 s (.inr r) h)
  (fun r=>by intro hx; rcases r with _ | _<;>cases hx) h
def qej_ (n:Nat)(a0:List Int)(a1 a2:Nat)(a3:NL):Option (Bool):=
 if ((a2:Nat):Int)=(((a3).l.length:Nat):Int) then
  match qe5_ n a0 a1 a2 a3 ((a2:Nat):Int) 0 with
  | none=>none
  | some (.inl _)=>
   some false
  | some (.inr _)=>
   some true
 else
  some false
theorem qq9_ (n:Nat)(a0:List Int)(a1 a2:Nat)(a3:NL)(r:Bool)(h:qej_ n a0 a1 a2 a3=some r):qt1_ a0 a1 a2 a3 r:=by
 unfold qej_ at h
 by_cases hc1:((a2:Nat):Int)=(((a3).l.length:Nat):Int)
 ·rw[if_pos hc1] at h
  have k0:=fun {A L l} (k:PL A L l)=>zz 8 (xnF hc1) <|
   k
  rcases hc2:qe5_ n a0 a1 a2 a3 ((a2:Nat):Int) 0 with _ | (⟨⟩ | ⟨⟩)
  ·rw[hc2] at h; cases h
  ·rw[hc2] at h
   dsimp only at h
   obtain rfl:=oI h
   exact runF2 hm (kW [4] [] 1 1) (k0 <|
    ww (qif_ n (rnd:=none) a0 a1 a2 a3 ((a2:Nat):Int) 0 (.inl ()) hc2) <|
    ww (qd_ a0 3) <|
    ll 16 ⟨(kW [0,1,12,13] [(0,0,true)] 1 1),(qb3_ a0 a1 a2 a3 ((a2:Nat):Int) (.inl ())).1,(qb3_ a0 a1 a2 a3 ((a2:Nat):Int) (.inl ())).2⟩ <|
    ee) (by kernel_rfl)
  ·rw[hc2] at h
   dsimp only at h
   obtain rfl:=oI h
   exact runF2 hm (kW [4] [] 1 1) (k0 <|
    ww (qif_ n (rnd:=none) a0 a1 a2 a3 ((a2:Nat):Int) 0 (.inr ()) hc2) <|
    ww (qd_ a0 3) <|
    ll 16 ⟨(kW [0,1,12,13] [(0,0,true)] 1 1),(qb3_ a0 a1 a2 a3 ((a2:Nat):Int) (.inr ())).1,(qb3_ a0 a1 a2 a3 ((a2:Nat):Int) (.inr ())).2⟩ <|
    ee) (by kernel_rfl)
 ·rw[if_neg hc1] at h
  obtain rfl:=oI h
  exact runF2 hm (kW [4] [] 1 1) (zz 8 (xnT hc1) <|
   ee) (by kernel_rfl)

def qmo_ (a0:List Int)(a1:Nat)(a2:NL)(r:Bool):Value:=match r with
 | o0=>(bO o0)
def qmp_ (a0:List Int)(a1:Nat)(a2:NL)(r:Bool):AH:=match r with
 | o0=>⟨sB [],1,1⟩
abbrev qt3_ (a0:List Int)(a1:Nat)(a2:NL)(r:Bool):Prop:=Gv P (.func 121) [(sN 0 0 a1 (Nat.add big 1)),(nlV a2)] ⟨sB [(0,(cB (iv a0) 3))],1,1⟩ (qmo_ a0 a1 a2 r) (qmp_ a0 a1 a2 r)
abbrev qt4_ (a0:List Int)(a1:Nat)(a2:NL)(r:Bool)(ins outs:BL):CallA:=⟨1,ins,qmo_ a0 a1 a2 r,qmp_ a0 a1 a2 r,outs⟩
def qek_ (n:Nat)(a0:List Int)(a1:Nat)(a2:NL):Option (Bool):=
 if (((a2).l.length:Nat):Int)≤((a1:Nat):Int) then
  ((some (w64 (((a1:Nat):Int)-(((a2).l.length:Nat):Int))))).bind fun c2_=>
  if 0≤c2_∧c2_≤((a1:Nat):Int) then
   (qej_ n a0 ((c2_).toNat) (a1-(c2_).toNat) a2).bind fun c4_=>
   some c4_
  else none
 else
  some false
theorem qra_ (n:Nat)(a0:List Int)(a1:Nat)(a2:NL)(r:Bool)(h:qek_ n a0 a1 a2=some r):qt3_ a0 a1 a2 r:=by
 unfold qek_ at h
 by_cases hc1:(((a2).l.length:Nat):Int)≤((a1:Nat):Int)
 ·rw[if_pos hc1] at h
  obtain⟨c2_,hc2,h⟩:=oB h
  obtain⟨hc3,h⟩:=gd h
  obtain⟨c4_,hc4,h⟩:=oB h
  obtain rfl:=oI h
  exact runF2 hm (kW [4] [] 1 1) (zz 7 (xdT hc1) <|
   zz 14 (xnm hc2) <|
   yy 15 (.pur (sN 0 ((c2_).toNat*1) (a1-(c2_).toNat) (Nat.add big 1))) <|
   ww (p:=qki_ P 28 (sN 0 0 a1 (Nat.add big 1)) (some (i6 c2_)) none none Ax.h0=some ((sN 0 ((c2_).toNat*1) (a1-(c2_).toNat) (Nat.add big 1)),Ax.h0)) (slRow (e:=3) (es:=1) (by kernel_rfl) (by kernel_rfl) rfl rfl hc3) <|
   yy 17 (.call (qt2_ a0 ((c2_).toNat) (a1-(c2_).toNat) a2 c4_ [(0,0,true)] [])) <|
   ww (qq9_ n a0 ((c2_).toNat) (a1-(c2_).toNat) a2 c4_ hc4) <|
   ww (qd_ a0 3) <|
   ee) (by kernel_rfl)
 ·rw[if_neg hc1] at h
  obtain rfl:=oI h
  exact runF2 hm (kW [4] [] 1 1) (zz 7 (xdF hc1) <|
   ee) (by kernel_rfl)

def qru_ (a0:Int)(a1:NL)(a2 a3 a4:Int)(a5:List Int)(a6:Nat)(r:Bool):Value:=match r with
 | o0=>(bO o0)
def qrv_ (a0:Int)(a1:NL)(a2 a3 a4:Int)(a5:List Int)(a6:Nat)(r:Bool):AH:=match r with
 | o0=>⟨sB [],1,1⟩
abbrev qxw_ (a0:Int)(a1:NL)(a2 a3 a4:Int)(a5:List Int)(a6:Nat)(r:Bool):Prop:=Gv P (.func 106) [(Value.agg #[(i6 a0),(nlV a1),(i6 a2),(i6 a3)]),(i6 a4),(sN 0 0 a6 (Nat.add big 1))] ⟨sB [(0,(cB (iv a5) 3))],1,1⟩ (qru_ a0 a1 a2 a3 a4 a5 a6 r) (qrv_ a0 a1 a2 a3 a4 a5 a6 r)
abbrev qrw_ (a0:Int)(a1:NL)(a2 a3 a4:Int)(a5:List Int)(a6:Nat)(r:Bool)(ins outs:BL):CallA:=⟨1,ins,qru_ a0 a1 a2 a3 a4 a5 a6 r,qrv_ a0 a1 a2 a3 a4 a5 a6 r,outs⟩
def qfd_ (n:Nat)(a0:Int)(a1:NL)(a2 a3 a4:Int)(a5:List Int)(a6:Nat):Option (Bool):=
 if a0=a4 then
  (qek_ n a5 a6 a1).bind fun c2_=>
  some c2_
 else
  some false
theorem qnw_ (n:Nat)(a0:Int)(a1:NL)(a2 a3 a4:Int)(a5:List Int)(a6:Nat)(r:Bool)(h:qfd_ n a0 a1 a2 a3 a4 a5 a6=some r):qxw_ a0 a1 a2 a3 a4 a5 a6 r:=by
 unfold qfd_ at h
 by_cases hc1:a0=a4
 ·rw[if_pos hc1] at h
  obtain⟨c2_,hc2,h⟩:=oB h
  obtain rfl:=oI h
  exact runF2 hm (kW [6] [] 1 1) (zz 7 (xeT hc1) <|
   yy 12 (.call (qt4_ a5 a6 a1 c2_ [(0,0,true)] [])) <|
   ww (qra_ n a5 a6 a1 c2_ hc2) <|
   ww (qd_ a5 3) <|
   ee) (by kernel_rfl)
 ·rw[if_neg hc1] at h
  obtain rfl:=oI h
  exact runF2 hm (kW [6] [] 1 1) (zz 7 (xeF hc1) <|
   ee) (by kernel_rfl)

def qta_ (a0 a1 a2:Int)(a3:Bool)(a4:Int)(a5:NL)(a6 a7 a8:Int)(a9:List Int)(a10:Nat)(r:Int×NL×Int×Int×Bool):Value:=match r with
 | (o0,o1,o2,o3,o4)=>(Value.agg #[(i6 o0),(nlV o1),(i6 o2),(i6 o3),(bO o4)])
def qtb_ (a0 a1 a2:Int)(a3:Bool)(a4:Int)(a5:NL)(a6 a7 a8:Int)(a9:List Int)(a10:Nat)(r:Int×NL×Int×Int×Bool):AH:=match r with
 | (o0,o1,o2,o3,o4)=>⟨sB [(3,(cB [(i6 o0),(nlV o1),(i6 o2),(i6 o3),(bO o4)] 187))],4,3⟩
abbrev qzt_ (a0 a1 a2:Int)(a3:Bool)(a4:Int)(a5:NL)(a6 a7 a8:Int)(a9:List Int)(a10:Nat)(r:Int×NL×Int×Int×Bool):Prop:=Gv P (.func 105) [(Value.agg #[(i6 a0),(Value.slice none 0 0),(i6 a1),(i6 a2),(bO a3)]),(Value.agg #[(i6 a4),(nlV a5),(i6 a6),(i6 a7)]),(pN 0 0),(pN 1 0)] ⟨sB [(0,(cB [(i6 a8)] 3)),(1,(cB [(sN 2 0 a10 (Nat.add big 1))] 28)),(2,(cB (iv a9) 3))],3,3⟩ (qta_ a0 a1 a2 a3 a4 a5 a6 a7 a8 a9 a10 r) (qtb_ a0 a1 a2 a3 a4 a5 a6 a7 a8 a9 a10 r)
abbrev qzu_ (a0 a1 a2:Int)(a3:Bool)(a4:Int)(a5:NL)(a6 a7 a8:Int)(a9:List Int)(a10:Nat)(r:Int×NL×Int×Int×Bool)(ins outs:BL):CallA:=⟨3,ins,qta_ a0 a1 a2 a3 a4 a5 a6 a7 a8 a9 a10 r,qtb_ a0 a1 a2 a3 a4 a5 a6 a7 a8 a9 a10 r,outs⟩
def qf0_ (n:Nat)(a0 a1 a2:Int)(a3:Bool)(a4:Int)(a5:NL)(a6 a7 a8:Int)(a9:List Int)(a10:Nat):Option (Int×NL×Int×Int×Bool):=
 (qfd_ n a4 a5 a6 a7 a8 a9 a10).bind fun c1_=>
 if c1_=true then
  if a3=true then
   if a7≤a2 then
    some (a0,nl0,a1,a2,a3)
   else
    some (a4,a5,a6,a7,true)
  else
   some (a4,a5,a6,a7,true)
 else
  some (a0,nl0,a1,a2,a3)
theorem qwa_ (n:Nat)(a0 a1 a2:Int)(a3:Bool)(a4:Int)(a5:NL)(a6 a7 a8:Int)(a9:List Int)(a10:Nat)(r:Int×NL×Int×Int×Bool)(h:qf0_ n a0 a1 a2 a3 a4 a5 a6 a7 a8 a9 a10=some r):qzt_ a0 a1 a2 a3 a4 a5 a6 a7 a8 a9 a10 r:=by
 unfold qf0_ at h
 obtain⟨c1_,hc1,h⟩:=oB h
 have k0:=fun {A L l} (k:PL A L l)=>yy 9 (.call (qrw_ a4 a5 a6 a7 a8 a9 a10 c1_ [(0,2,true)] [])) <|
  ww (qnw_ n a4 a5 a6 a7 a8 a9 a10 c1_ hc1) <|
  ww (qd_ a9 3) <|
  k
 by_cases hc2:c1_=true
 ·rw[if_pos hc2] at h
  have k3:=fun {A L l} (k:PL A L l)=>yy 10 (vf) <|
   ww (p:=(Value.bool (!c1_))=(Value.bool false)) (vBn hc2) <|
   k
  by_cases hc3:a3=true
  ·rw[if_pos hc3] at h
   have k5:=fun {A L l} (k:PL A L l)=>zz 14 (xbT hc3) <|
    k
   by_cases hc4:a7≤a2
   ·rw[if_pos hc4] at h
    obtain rfl:=oI h
    exact runF2 hm ⟨[6],[(3,5,false)],4,3,[],true,[187],[],[]⟩ (k0 <|
     k3 <|
     k5 <|
     zz 20 (xdT hc4) <|
     ee) (by kernel_rfl)
   ·rw[if_neg hc4] at h
    obtain rfl:=oI h
    exact runF2 hm ⟨[6],[(3,5,false)],4,3,[],true,[187],[],[]⟩ (k0 <|
     k3 <|
     k5 <|
     zz 20 (xdF hc4) <|
     ee) (by kernel_rfl)
  ·rw[if_neg hc3] at h
   obtain rfl:=oI h
   exact runF2 hm ⟨[6],[(3,5,false)],4,3,[],true,[187],[],[]⟩ (k0 <|
    k3 <|
    zz 14 (xbF hc3) <|
    ee) (by kernel_rfl)
 ·rw[if_neg hc2] at h
  obtain rfl:=oI h
  exact runF2 hm ⟨[6],[(3,5,false)],4,3,[],true,[187],[],[]⟩ (k0 <|
   yy 10 (vt) <|
   ww (p:=(Value.bool (!c1_))=(Value.bool true)) (vBn (Bool.eq_false_iff.2 hc2)) <|
   ee) (by kernel_rfl)

def qgu_ (a0 a1 a2:Int)(a3:Bool)(a4:Int)(a5:List Int)(a6:Nat)(a7 a8 a9:Int)(a10:Bool)(a11:WL rw_iLii)(a12:Int)(a13:NL)(a14 a15:Int)(r:Int×NL×Int×Int×Bool):Value:=match r with
 | (o0,o1,o2,o3,o4)=>(bO true)
def qgv_ (a0 a1 a2:Int)(a3:Bool)(a4:Int)(a5:List Int)(a6:Nat)(a7 a8 a9:Int)(a10:Bool)(a11:WL rw_iLii)(a12:Int)(a13:NL)(a14 a15:Int)(r:Int×NL×Int×Int×Bool):AH:=match r with
 | (o0,o1,o2,o3,o4)=>⟨sB [(0,(some (rblk P 103 [false,true,false,true] .ready none [(4,(pN 2 0)),(5,(pN 3 0)),(6,(pN 7 0)),(8,(Value.func (.func 120) #[] #[(pN 8 0)]))] 1))),(1,(some (.marks true))),(2,(cB [(i6 o0),(nlV o1),(i6 o2),(i6 o3),(bO o4)] 187)),(3,(cB [(Value.func (.func 105) #[] #[(pN 4 0),(pN 5 0)])] 192)),(4,(cB [(i6 a4)] 3)),(5,(cB [(sN 6 0 a6 (Nat.add big 1))] 28)),(6,(cB (iv a5) 3)),(7,(cB [(i6 a7),(Value.slice none 0 0),(i6 a8),(i6 a9),(bO a10)] 187)),(8,(cB [(wlV a11)] 23))],9,0⟩
abbrev qm3_ (a0 a1 a2:Int)(a3:Bool)(a4:Int)(a5:List Int)(a6:Nat)(a7 a8 a9:Int)(a10:Bool)(a11:WL rw_iLii)(a12:Int)(a13:NL)(a14 a15:Int)(r:Int×NL×Int×Int×Bool):Prop:=Gv P (.yield 0) [(Value.agg #[(i6 a12),(nlV a13),(i6 a14),(i6 a15)])] ⟨sB [(0,(some (rblk P 103 [false,true,false,true] .ready none [(4,(pN 2 0)),(5,(pN 3 0)),(6,(pN 7 0)),(8,(Value.func (.func 120) #[] #[(pN 8 0)]))] 1))),(1,(some (.marks true))),(2,(cB [(i6 a0),(Value.slice none 0 0),(i6 a1),(i6 a2),(bO a3)] 187)),(3,(cB [(Value.func (.func 105) #[] #[(pN 4 0),(pN 5 0)])] 192)),(4,(cB [(i6 a4)] 3)),(5,(cB [(sN 6 0 a6 (Nat.add big 1))] 28)),(6,(cB (iv a5) 3)),(7,(cB [(i6 a7),(Value.slice none 0 0),(i6 a8),(i6 a9),(bO a10)] 187)),(8,(cB [(wlV a11)] 23))],9,9⟩ (qgu_ a0 a1 a2 a3 a4 a5 a6 a7 a8 a9 a10 a11 a12 a13 a14 a15 r) (qgv_ a0 a1 a2 a3 a4 a5 a6 a7 a8 a9 a10 a11 a12 a13 a14 a15 r)
abbrev qm4_ (a0 a1 a2:Int)(a3:Bool)(a4:Int)(a5:List Int)(a6:Nat)(a7 a8 a9:Int)(a10:Bool)(a11:WL rw_iLii)(a12:Int)(a13:NL)(a14 a15:Int)(r:Int×NL×Int×Int×Bool)(ins outs:BL):CallA:=⟨9,ins,qgu_ a0 a1 a2 a3 a4 a5 a6 a7 a8 a9 a10 a11 a12 a13 a14 a15 r,qgv_ a0 a1 a2 a3 a4 a5 a6 a7 a8 a9 a10 a11 a12 a13 a14 a15 r,outs⟩
def qc1_ (n:Nat)(a0 a1 a2:Int)(a3:Bool)(a4:Int)(a5:List Int)(a6:Nat)(a7 a8 a9:Int)(a10:Bool)(a11:WL rw_iLii)(a12:Int)(a13:NL)(a14 a15:Int):Option (Int×NL×Int×Int×Bool):=
 (qf0_ n a0 a1 a2 a3 a12 a13 a14 a15 a4 a5 a6).bind fun t=>match t with
 | (c1_0,c1_1,c1_2,c1_3,c1_4)=>
  some (c1_0,c1_1,c1_2,c1_3,c1_4)
theorem qk3_ (n:Nat)(a0 a1 a2:Int)(a3:Bool)(a4:Int)(a5:List Int)(a6:Nat)(a7 a8 a9:Int)(a10:Bool)(a11:WL rw_iLii)(a12:Int)(a13:NL)(a14 a15:Int)(r:Int×NL×Int×Int×Bool)(h:qc1_ n a0 a1 a2 a3 a4 a5 a6 a7 a8 a9 a10 a11 a12 a13 a14 a15=some r):qm3_ a0 a1 a2 a3 a4 a5 a6 a7 a8 a9 a10 a11 a12 a13 a14 a15 r:=by
 unfold qc1_ at h
 obtain⟨⟨c1_0,c1_1,c1_2,c1_3,c1_4⟩,hc1,h⟩:=oB h
 dsimp only at h
 obtain rfl:=oI h
 exact runY2 hm (kW [] [(0,0,false),(1,1,false),(2,2,false),(3,3,false),(4,4,false),(5,5,false),(6,6,true),(7,7,false),(8,8,false)] 9 0) (ee) (yy 4 (.call (qzu_ a0 a1 a2 a3 a12 a13 a14 a15 a4 a5 a6 (c1_0,c1_1,c1_2,c1_3,c1_4) [(0,4,false),(1,5,false),(2,6,true)] [(10,3,false)])) <|
  ww (qwa_ n a0 a1 a2 a3 a12 a13 a14 a15 a4 a5 a6 (c1_0,c1_1,c1_2,c1_3,c1_4) hc1) <|
  ww (qd_ a5 3) <|
  ww (qd_ a5 3) <|
  ee) (by kernel_rfl)

def qtc_ (a0:Int)(a1:NL)(a2 a3:Int)(a4:Bool)(a5:Int)(a6:NL)(a7 a8 a9:Int)(a10:List Int)(a11:Nat)(r:Int×NL×Int×Int×Bool):Value:=match r with
 | (o0,o1,o2,o3,o4)=>(Value.agg #[(i6 o0),(nlV o1),(i6 o2),(i6 o3),(bO o4)])
def qtd_ (a0:Int)(a1:NL)(a2 a3:Int)(a4:Bool)(a5:Int)(a6:NL)(a7 a8 a9:Int)(a10:List Int)(a11:Nat)(r:Int×NL×Int×Int×Bool):AH:=match r with
 | (o0,o1,o2,o3,o4)=>⟨sB [(3,(cB [(i6 o0),(nlV o1),(i6 o2),(i6 o3),(bO o4)] 187))],4,3⟩
abbrev qzv_ (a0:Int)(a1:NL)(a2 a3:Int)(a4:Bool)(a5:Int)(a6:NL)(a7 a8 a9:Int)(a10:List Int)(a11:Nat)(r:Int×NL×Int×Int×Bool):Prop:=Gv P (.func 105) [(Value.agg #[(i6 a0),(nlV a1),(i6 a2),(i6 a3),(bO a4)]),(Value.agg #[(i6 a5),(nlV a6),(i6 a7),(i6 a8)]),(pN 0 0),(pN 1 0)] ⟨sB [(0,(cB [(i6 a9)] 3)),(1,(cB [(sN 2 0 a11 (Nat.add big 1))] 28)),(2,(cB (iv a10) 3))],3,3⟩ (qtc_ a0 a1 a2 a3 a4 a5 a6 a7 a8 a9 a10 a11 r) (qtd_ a0 a1 a2 a3 a4 a5 a6 a7 a8 a9 a10 a11 r)
abbrev qzw_ (a0:Int)(a1:NL)(a2 a3:Int)(a4:Bool)(a5:Int)(a6:NL)(a7 a8 a9:Int)(a10:List Int)(a11:Nat)(r:Int×NL×Int×Int×Bool)(ins outs:BL):CallA:=⟨3,ins,qtc_ a0 a1 a2 a3 a4 a5 a6 a7 a8 a9 a10 a11 r,qtd_ a0 a1 a2 a3 a4 a5 a6 a7 a8 a9 a10 a11 r,outs⟩
def qf1_ (n:Nat)(a0:Int)(a1:NL)(a2 a3:Int)(a4:Bool)(a5:Int)(a6:NL)(a7 a8 a9:Int)(a10:List Int)(a11:Nat):Option (Int×NL×Int×Int×Bool):=
 (qfd_ n a5 a6 a7 a8 a9 a10 a11).bind fun c1_=>
 if c1_=true then
  if a4=true then
   if a8≤a3 then
    some (a0,a1,a2,a3,a4)
   else
    some (a5,a6,a7,a8,true)
  else
   some (a5,a6,a7,a8,true)
 else
  some (a0,a1,a2,a3,a4)
theorem qwb_ (n:Nat)(a0:Int)(a1:NL)(a2 a3:Int)(a4:Bool)(a5:Int)(a6:NL)(a7 a8 a9:Int)(a10:List Int)(a11:Nat)(r:Int×NL×Int×Int×Bool)(h:qf1_ n a0 a1 a2 a3 a4 a5 a6 a7 a8 a9 a10 a11=some r):qzv_ a0 a1 a2 a3 a4 a5 a6 a7 a8 a9 a10 a11 r:=by
 unfold qf1_ at h
 obtain⟨c1_,hc1,h⟩:=oB h
 have k0:=fun {A L l} (k:PL A L l)=>yy 9 (.call (qrw_ a5 a6 a7 a8 a9 a10 a11 c1_ [(0,2,true)] [])) <|
  ww (qnw_ n a5 a6 a7 a8 a9 a10 a11 c1_ hc1) <|
  ww (qd_ a10 3) <|
  k
 by_cases hc2:c1_=true
 ·rw[if_pos hc2] at h
  have k3:=fun {A L l} (k:PL A L l)=>yy 10 (vf) <|
   ww (p:=(Value.bool (!c1_))=(Value.bool false)) (vBn hc2) <|
   k
  by_cases hc3:a4=true
  ·rw[if_pos hc3] at h
   have k5:=fun {A L l} (k:PL A L l)=>zz 14 (xbT hc3) <|
    k
   by_cases hc4:a8≤a3
   ·rw[if_pos hc4] at h
    obtain rfl:=oI h
    exact runF2 hm (kW [6] [(3,5,false)] 4 3) (k0 <|
     k3 <|
     k5 <|
     zz 20 (xdT hc4) <|
     ee) (by kernel_rfl)
   ·rw[if_neg hc4] at h
    obtain rfl:=oI h
    exact runF2 hm (kW [6] [(3,5,false)] 4 3) (k0 <|
     k3 <|
     k5 <|
     zz 20 (xdF hc4) <|
     ee) (by kernel_rfl)
  ·rw[if_neg hc3] at h
   obtain rfl:=oI h
   exact runF2 hm (kW [6] [(3,5,false)] 4 3) (k0 <|
    k3 <|
    zz 14 (xbF hc3) <|
    ee) (by kernel_rfl)
 ·rw[if_neg hc2] at h
  obtain rfl:=oI h
  exact runF2 hm (kW [6] [(3,5,false)] 4 3) (k0 <|
   yy 10 (vt) <|
   ww (p:=(Value.bool (!c1_))=(Value.bool true)) (vBn (Bool.eq_false_iff.2 hc2)) <|
   ee) (by kernel_rfl)

def qgw_ (a0:Int)(a1:NL)(a2 a3:Int)(a4:Bool)(a5:Int)(a6:List Int)(a7:Nat)(a8 a9 a10:Int)(a11:Bool)(a12:WL rw_iLii)(a13:Int)(a14:NL)(a15 a16:Int)(r:Int×NL×Int×Int×Bool):Value:=match r with
 | (o0,o1,o2,o3,o4)=>(bO true)
def qgx_ (a0:Int)(a1:NL)(a2 a3:Int)(a4:Bool)(a5:Int)(a6:List Int)(a7:Nat)(a8 a9 a10:Int)(a11:Bool)(a12:WL rw_iLii)(a13:Int)(a14:NL)(a15 a16:Int)(r:Int×NL×Int×Int×Bool):AH:=match r with
 | (o0,o1,o2,o3,o4)=>⟨sB [(0,(some (rblk P 103 [false,true,false,true] .ready none [(4,(pN 2 0)),(5,(pN 3 0)),(6,(pN 7 0)),(8,(Value.func (.func 120) #[] #[(pN 8 0)]))] 1))),(1,(some (.marks true))),(2,(cB [(i6 o0),(nlV o1),(i6 o2),(i6 o3),(bO o4)] 187)),(3,(cB [(Value.func (.func 105) #[] #[(pN 4 0),(pN 5 0)])] 192)),(4,(cB [(i6 a5)] 3)),(5,(cB [(sN 6 0 a7 (Nat.add big 1))] 28)),(6,(cB (iv a6) 3)),(7,(cB [(i6 a8),(Value.slice none 0 0),(i6 a9),(i6 a10),(bO a11)] 187)),(8,(cB [(wlV a12)] 23))],9,0⟩
abbrev qm5_ (a0:Int)(a1:NL)(a2 a3:Int)(a4:Bool)(a5:Int)(a6:List Int)(a7:Nat)(a8 a9 a10:Int)(a11:Bool)(a12:WL rw_iLii)(a13:Int)(a14:NL)(a15 a16:Int)(r:Int×NL×Int×Int×Bool):Prop:=Gv P (.yield 0) [(Value.agg #[(i6 a13),(nlV a14),(i6 a15),(i6 a16)])] ⟨sB [(0,(some (rblk P 103 [false,true,false,true] .ready none [(4,(pN 2 0)),(5,(pN 3 0)),(6,(pN 7 0)),(8,(Value.func (.func 120) #[] #[(pN 8 0)]))] 1))),(1,(some (.marks true))),(2,(cB [(i6 a0),(nlV a1),(i6 a2),(i6 a3),(bO a4)] 187)),(3,(cB [(Value.func (.func 105) #[] #[(pN 4 0),(pN 5 0)])] 192)),(4,(cB [(i6 a5)] 3)),(5,(cB [(sN 6 0 a7 (Nat.add big 1))] 28)),(6,(cB (iv a6) 3)),(7,(cB [(i6 a8),(Value.slice none 0 0),(i6 a9),(i6 a10),(bO a11)] 187)),(8,(cB [(wlV a12)] 23))],9,9⟩ (qgw_ a0 a1 a2 a3 a4 a5 a6 a7 a8 a9 a10 a11 a12 a13 a14 a15 a16 r) (qgx_ a0 a1 a2 a3 a4 a5 a6 a7 a8 a9 a10 a11 a12 a13 a14 a15 a16 r)
abbrev qm6_ (a0:Int)(a1:NL)(a2 a3:Int)(a4:Bool)(a5:Int)(a6:List Int)(a7:Nat)(a8 a9 a10:Int)(a11:Bool)(a12:WL rw_iLii)(a13:Int)(a14:NL)(a15 a16:Int)(r:Int×NL×Int×Int×Bool)(ins outs:BL):CallA:=⟨9,ins,qgw_ a0 a1 a2 a3 a4 a5 a6 a7 a8 a9 a10 a11 a12 a13 a14 a15 a16 r,qgx_ a0 a1 a2 a3 a4 a5 a6 a7 a8 a9 a10 a11 a12 a13 a14 a15 a16 r,outs⟩
def qc2_ (n:Nat)(a0:Int)(a1:NL)(a2 a3:Int)(a4:Bool)(a5:Int)(a6:List Int)(a7:Nat)(a8 a9 a10:Int)(a11:Bool)(a12:WL rw_iLii)(a13:Int)(a14:NL)(a15 a16:Int):Option (Int×NL×Int×Int×Bool):=
 (qf1_ n a0 a1 a2 a3 a4 a13 a14 a15 a16 a5 a6 a7).bind fun t=>match t with
 | (c1_0,c1_1,c1_2,c1_3,c1_4)=>
  some (c1_0,c1_1,c1_2,c1_3,c1_4)
theorem qk4_ (n:Nat)(a0:Int)(a1:NL)(a2 a3:Int)(a4:Bool)(a5:Int)(a6:List Int)(a7:Nat)(a8 a9 a10:Int)(a11:Bool)(a12:WL rw_iLii)(a13:Int)(a14:NL)(a15 a16:Int)(r:Int×NL×Int×Int×Bool)(h:qc2_ n a0 a1 a2 a3 a4 a5 a6 a7 a8 a9 a10 a11 a12 a13 a14 a15 a16=some r):qm5_ a0 a1 a2 a3 a4 a5 a6 a7 a8 a9 a10 a11 a12 a13 a14 a15 a16 r:=by
 unfold qc2_ at h
 obtain⟨⟨c1_0,c1_1,c1_2,c1_3,c1_4⟩,hc1,h⟩:=oB h
 dsimp only at h
 obtain rfl:=oI h
 exact runY2 hm (kW [] [(0,0,false),(1,1,false),(2,2,false),(3,3,false),(4,4,false),(5,5,false),(6,6,true),(7,7,false),(8,8,false)] 9 0) (ee) (yy 4 (.call (qzw_ a0 a1 a2 a3 a4 a13 a14 a15 a16 a5 a6 a7 (c1_0,c1_1,c1_2,c1_3,c1_4) [(0,4,false),(1,5,false),(2,6,true)] [(10,3,false)])) <|
  ww (qwb_ n a0 a1 a2 a3 a4 a13 a14 a15 a16 a5 a6 a7 (c1_0,c1_1,c1_2,c1_3,c1_4) hc1) <|
  ww (qd_ a6 3) <|
  ww (qd_ a6 3) <|
  ee) (by kernel_rfl)

def qje_ (a0 a1 a2:Int)(a3:Bool)(a4:Int)(a5:List Int)(a6:Nat)(a7 a8 a9:Int)(a10:Bool)(a11:WL rw_iLii)(r:Int×List (NL)×Int×Int×Bool):Value:=match r with
 | (o0,o1,o2,o3,o4)=>(Value.tuple #[])
def qjf_ (a0 a1 a2:Int)(a3:Bool)(a4:Int)(a5:List Int)(a6:Nat)(a7 a8 a9:Int)(a10:Bool)(a11:WL rw_iLii)(r:Int×List (NL)×Int×Int×Bool):AH:=match r with
 | (o0,o1,o2,o3,o4)=>⟨sB [(0,(some (rblk P 103 [false,true,false,true] .ready none [(4,(pN 2 0)),(5,(pN 3 0)),(6,(pN 7 0)),(8,(Value.func (.func 120) #[] #[(pN 8 0)]))] 1))),(1,(some (.marks true))),(2,(cB [(i6 o0),(nlQ o1),(i6 o2),(i6 o3),(bO o4)] 187)),(3,(cB [(Value.func (.func 105) #[] #[(pN 4 0),(pN 5 0)])] 192)),(4,(cB [(i6 a4)] 3)),(5,(cB [(sN 6 0 a6 (Nat.add big 1))] 28)),(6,(cB (iv a5) 3)),(7,(cB [(i6 a7),(Value.slice none 0 0),(i6 a8),(i6 a9),(bO a10)] 187)),(8,(cB [(wlV a11)] 23))],9,0⟩
abbrev qp7_ (a0 a1 a2:Int)(a3:Bool)(a4:Int)(a5:List Int)(a6:Nat)(a7 a8 a9:Int)(a10:Bool)(a11:WL rw_iLii)(r:Int×List (NL)×Int×Int×Bool):Prop:=Gv P (.func 120) [(Value.func (.yield 0) #[] #[]),(pN 8 0)] ⟨sB [(0,(some (rblk P 103 [false,true,false,true] .ready none [(4,(pN 2 0)),(5,(pN 3 0)),(6,(pN 7 0)),(8,(Value.func (.func 120) #[] #[(pN 8 0)]))] 1))),(1,(some (.marks true))),(2,(cB [(i6 a0),(Value.slice none 0 0),(i6 a1),(i6 a2),(bO a3)] 187)),(3,(cB [(Value.func (.func 105) #[] #[(pN 4 0),(pN 5 0)])] 192)),(4,(cB [(i6 a4)] 3)),(5,(cB [(sN 6 0 a6 (Nat.add big 1))] 28)),(6,(cB (iv a5) 3)),(7,(cB [(i6 a7),(Value.slice none 0 0),(i6 a8),(i6 a9),(bO a10)] 187)),(8,(cB [(wlV a11)] 23))],9,9⟩ (qje_ a0 a1 a2 a3 a4 a5 a6 a7 a8 a9 a10 a11 r) (qjf_ a0 a1 a2 a3 a4 a5 a6 a7 a8 a9 a10 a11 r)
abbrev qjg_ (a0 a1 a2:Int)(a3:Bool)(a4:Int)(a5:List Int)(a6:Nat)(a7 a8 a9:Int)(a10:Bool)(a11:WL rw_iLii)(r:Int×List (NL)×Int×Int×Bool)(ins outs:BL):CallA:=⟨9,ins,qje_ a0 a1 a2 a3 a4 a5 a6 a7 a8 a9 a10 a11 r,qjf_ a0 a1 a2 a3 a4 a5 a6 a7 a8 a9 a10 a11 r,outs⟩
def qdl_ (x5:Int)(x6:List Int)(x7:Nat)(x8 x9 x10:Int)(x11:Bool)(x12:WL rw_iLii)(x13:Int)(st:Int×List (NL)×Int×Int×Bool×Int):XSt:=match st with
 | (x0,x1,x2,x3,x4,x14)=>(sT 16 [(0,(Value.func (.yield 0) #[] #[])),(5,(wlV x12)),(6,(i6 x13)),(7,(i6 x14))],[],⟨sB [(0,(some (rblk P 103 [false,true,false,true] .ready none [(4,(pN 2 0)),(5,(pN 3 0)),(6,(pN 7 0)),(8,(Value.func (.func 120) #[] #[(pN 8 0)]))] 1))),(1,(some (.marks true))),(2,(cB [(i6 x0),(nlQ x1),(i6 x2),(i6 x3),(bO x4)] 187)),(3,(cB [(Value.func (.func 105) #[] #[(pN 4 0),(pN 5 0)])] 192)),(4,(cB [(i6 x5)] 3)),(5,(cB [(sN 6 0 x7 (Nat.add big 1))] 28)),(6,(cB (iv x6) 3)),(7,(cB [(i6 x8),(Value.slice none 0 0),(i6 x9),(i6 x10),(bO x11)] 187)),(8,(cB [(wlV x12)] 23))],9,0⟩)
def qba_ (x5:Int)(x6:List Int)(x7:Nat)(x8 x9 x10:Int)(x11:Bool)(x12:WL rw_iLii)(x13:Int)(r:Int×List (NL)×Int×Int×Bool):Ex×XSt:=match r with
 | (z0,z1,z2,z3,z4)=>(.exit 0,(sT 16 [],[],⟨sB [(0,(some (rblk P 103 [false,true,false,true] .ready none [(4,(pN 2 0)),(5,(pN 3 0)),(6,(pN 7 0)),(8,(Value.func (.func 120) #[] #[(pN 8 0)]))] 1))),(1,(some (.marks true))),(2,(cB [(i6 z0),(nlQ z1),(i6 z2),(i6 z3),(bO z4)] 187)),(3,(cB [(Value.func (.func 105) #[] #[(pN 4 0),(pN 5 0)])] 192)),(4,(cB [(i6 x5)] 3)),(5,(cB [(sN 6 0 x7 (Nat.add big 1))] 28)),(6,(cB (iv x6) 3)),(7,(cB [(i6 x8),(Value.slice none 0 0),(i6 x9),(i6 x10),(bO x11)] 187)),(8,(cB [(wlV x12)] 23))],9,0⟩))
abbrev qoe_ (rnd:Option Nat)(x5:Int)(x6:List Int)(x7:Nat)(x8 x9 x10:Int)(x11:Bool)(x12:WL rw_iLii)(x13:Int)(st:Int×List (NL)×Int×Int×Bool×Int)(c:Ex×XSt):Prop:=CG P rnd (fnN P 120) 9 (qx_ P 120 [false,false,true]) (qdl_ x5 x6 x7 x8 x9 x10 x11 x12 x13 st) c
abbrev qof_ (rd:Option Nat)(x5:Int)(x6:List Int)(x7:Nat)(x8 x9 x10:Int)(x11:Bool)(x12:WL rw_iLii)(x13:Int)(st:Int×List (NL)×Int×Int×Bool×Int)(r:Int×List (NL)×Int×Int×Bool):Prop:=CG P rd (fnN P 120) 9 (qx_ P 120 [false,true]) (qdl_ x5 x6 x7 x8 x9 x10 x11 x12 x13 st) (qba_ x5 x6 x7 x8 x9 x10 x11 x12 x13 r)
def qbb_ (n:Nat)(x5:Int)(x6:List Int)(x7:Nat)(x8 x9 x10:Int)(x11:Bool)(x12:WL rw_iLii)(x13:Int)(st:Int×List (NL)×Int×Int×Bool×Int):Option ((Int×List (NL)×Int×Int×Bool×Int) ⊕ (Int×List (NL)×Int×Int×Bool)):=match st with
 | (x0,x1,x2,x3,x4,x14)=>
  match x1 with
  | []=>
   if x14<x13 then
    if 0≤x14∧x14<(((x12).l.length:Nat):Int) then
     ((some (((x12).l).getD (x14).toNat (0,nl0,0,0)))).bind fun y3_=>
     (qc1_ n x0 x2 x3 x4 x5 x6 x7 x8 x9 x10 x11 x12 (y3_.1) (y3_.2.1) (y3_.2.2.1) (y3_.2.2.2)).bind fun t=>match t with
     | (y4_0,y4_1,y4_2,y4_3,y4_4)=>
      some (.inl (y4_0,[y4_1],y4_2,y4_3,y4_4,(w64 (x14+1))))
    else none
   else
    some (.inr (x0,([]:List (NL)),x2,x3,x4))
  | x1a::x1t=>
   if x14<x13 then
    if 0≤x14∧x14<(((x12).l.length:Nat):Int) then
     ((some (((x12).l).getD (x14).toNat (0,nl0,0,0)))).bind fun y3_=>
     (qc2_ n x0 x1a x2 x3 x4 x5 x6 x7 x8 x9 x10 x11 x12 (y3_.1) (y3_.2.1) (y3_.2.2.1) (y3_.2.2.2)).bind fun t=>match t with
     | (y4_0,y4_1,y4_2,y4_3,y4_4)=>
      some (.inl (y4_0,[y4_1],y4_2,y4_3,y4_4,(w64 (x14+1))))
    else none
   else
    some (.inr (x0,[x1a],x2,x3,x4))
def qfa_ (n:Nat)(x5:Int)(x6:List Int)(x7:Nat)(x8 x9 x10:Int)(x11:Bool)(x12:WL rw_iLii)(x13:Int)(st:Int×List (NL)×Int×Int×Bool×Int):Option (Int×List (NL)×Int×Int×Bool):=iterM (qbb_ n x5 x6 x7 x8 x9 x10 x11 x12 x13) n st
theorem qhs_ (n:Nat){rnd:Option Nat}(x5:Int)(x6:List Int)(x7:Nat)(x8 x9 x10:Int)(x11:Bool)(x12:WL rw_iLii)(x13:Int)(st:Int×List (NL)×Int×Int×Bool×Int)(o:(Int×List (NL)×Int×Int×Bool×Int) ⊕ (Int×List (NL)×Int×Int×Bool))(h:qbb_ n x5 x6 x7 x8 x9 x10 x11 x12 x13 st=some o):qoe_ rnd x5 x6 x7 x8 x9 x10 x11 x12 x13 st (Sum.elim (fun s=>(.normal,qdl_ x5 x6 x7 x8 x9 x10 x11 x12 x13 s)) (fun r=>qba_ x5 x6 x7 x8 x9 x10 x11 x12 x13 r) o):=by
 obtain⟨x0,x1,x2,x3,x4,x14⟩:=st
 unfold qbb_ at h
 dsimp only at h
 cases x1 with
 | nil=>
  dsimp only at h
  by_cases hy1:x14<x13
  ·rw[if_pos hy1] at h
   obtain⟨hy2,h⟩:=gd h
   obtain⟨y3_,hy3,h⟩:=oB h
   obtain⟨⟨y4_0,y4_1,y4_2,y4_3,y4_4⟩,hy4,h⟩:=oB h
   dsimp only at h
   obtain rfl:=oI h
   exact runC2 hm (kW [0,5,6,7] [(0,0,false),(1,1,false),(2,2,false),(3,3,false),(4,4,false),(5,5,false),(6,6,true),(7,7,false),(8,8,false)] 9 0) (zz 1 (xdT hy1) <|
    zz 7 (xk3 (x12).num (x12).off (x12).cap hy2) <|
    zz 8 (lk27 hy3 (qw_ hy2)) <|
    yy 14 (.call (qm4_ x0 x2 x3 x4 x5 x6 x7 x8 x9 x10 x11 x12 (y3_.1) (y3_.2.1) (y3_.2.2.1) (y3_.2.2.2) (y4_0,y4_1,y4_2,y4_3,y4_4) [(0,0,false),(1,1,false),(2,2,false),(3,3,false),(4,4,false),(5,5,false),(6,6,true),(7,7,false),(8,8,false)] [(0,0,false),(1,1,false),(2,2,false),(3,3,false),(4,4,false),(5,5,false),(6,6,true),(7,7,false),(8,8,false)])) <|
    ww (qk3_ n x0 x2 x3 x4 x5 x6 x7 x8 x9 x10 x11 x12 (y3_.1) (y3_.2.1) (y3_.2.2.1) (y3_.2.2.2) (y4_0,y4_1,y4_2,y4_3,y4_4) hy4) <|
    ww (qd_ x6 3) <|
    ww (qd_ x6 3) <|
    ww (qd_ x6 3) <|
    ee) (by kernel_rfl)
  ·rw[if_neg hy1] at h
   obtain rfl:=oI h
   exact runC2 hm (kW [] [(0,0,false),(1,1,false),(2,2,false),(3,3,false),(4,4,false),(5,5,false),(6,6,true),(7,7,false),(8,8,false)] 9 0) (zz 1 (xdF hy1) <|
    ww (qd_ x6 3) <|
    ee) (by kernel_rfl)
 | cons x1a x1t=>
  dsimp only at h
  by_cases hy1:x14<x13
  ·rw[if_pos hy1] at h
   obtain⟨hy2,h⟩:=gd h
   obtain⟨y3_,hy3,h⟩:=oB h
   obtain⟨⟨y4_0,y4_1,y4_2,y4_3,y4_4⟩,hy4,h⟩:=oB h
   dsimp only at h
   obtain rfl:=oI h
   exact runC2 hm (kW [0,5,6,7] [(0,0,false),(1,1,false),(2,2,false),(3,3,false),(4,4,false),(5,5,false),(6,6,true),(7,7,false),(8,8,false)] 9 0) (zz 1 (xdT hy1) <|
    zz 7 (xk3 (x12).num (x12).off (x12).cap hy2) <|
    zz 8 (lk27 hy3 (qw_ hy2)) <|
    yy 14 (.call (qm6_ x0 x1a x2 x3 x4 x5 x6 x7 x8 x9 x10 x11 x12 (y3_.1) (y3_.2.1) (y3_.2.2.1) (y3_.2.2.2) (y4_0,y4_1,y4_2,y4_3,y4_4) [(0,0,false),(1,1,false),(2,2,false),(3,3,false),(4,4,false),(5,5,false),(6,6,true),(7,7,false),(8,8,false)] [(0,0,false),(1,1,false),(2,2,false),(3,3,false),(4,4,false),(5,5,false),(6,6,true),(7,7,false),(8,8,false)])) <|
    ww (qk4_ n x0 x1a x2 x3 x4 x5 x6 x7 x8 x9 x10 x11 x12 (y3_.1) (y3_.2.1) (y3_.2.2.1) (y3_.2.2.2) (y4_0,y4_1,y4_2,y4_3,y4_4) hy4) <|
    ww (qd_ x6 3) <|
    ww (qd_ x6 3) <|
    ww (qd_ x6 3) <|
    ee) (by kernel_rfl)
  ·rw[if_neg hy1] at h
   obtain rfl:=oI h
   exact runC2 hm (kW [] [(0,0,false),(1,1,false),(2,2,false),(3,3,false),(4,4,false),(5,5,false),(6,6,true),(7,7,false),(8,8,false)] 9 0) (zz 1 (xdF hy1) <|
    ww (qd_ x6 3) <|
    ee) (by kernel_rfl)
theorem qgi_ (n:Nat){rnd:Option Nat}(x5:Int)(x6:List Int)(x7:Nat)(x8 x9 x10:Int)(x11:Bool)(x12:WL rw_iLii)(x13:Int)(st:Int×List (NL)×Int×Int×Bool×Int)(r:Int×List (NL)×Int×Int×Bool)(h:qfa_ n x5 x6 x7 x8 x9 x10 x11 x12 x13 st=some r):qof_ rnd x5 x6 x7 x8 x9 x10 x11 x12 x13 st r:=
 CG.iter (b:=qx_ P 120 [false,false,true]) (by kernel_rfl) (body:=qbb_ n x5 x6 x7 x8 x9 x10 x11 x12 x13) (S:=qdl_ x5 x6 x7 x8 x9 x10 x11 x12 x13) (X:=qba_ x5 x6 x7 x8 x9 x10 x11 x12 x13)
  (fun s s' h=>qhs_ n x5 x6 x7 x8 x9 x10 x11 x12 x13 s (.inl s') h)
  (fun s r h=>qhs_ n x5 x6 x7 x8 x9 x10 x11 x12 x13 s (.inr r) h)
  (fun r=>by intro hx; cases hx) h
def qec_ (n:Nat)(a0 a1 a2:Int)(a3:Bool)(a4:Int)(a5:List Int)(a6:Nat)(a7 a8 a9:Int)(a10:Bool)(a11:WL rw_iLii):Option (Int×List (NL)×Int×Int×Bool):=
 (qfa_ n a4 a5 a6 a7 a8 a9 a10 a11 (((a11).l.length:Nat):Int) (a0,([]:List (NL)),a1,a2,a3,0)).bind fun t=>match t with
 | (c1_0,c1_1,c1_2,c1_3,c1_4)=>
  match c1_1 with
  | []=>
   some (c1_0,([]:List (NL)),c1_2,c1_3,c1_4)
  | c1_1a::c1_1t=>
   some (c1_0,[c1_1a],c1_2,c1_3,c1_4)
theorem qhc_ (n:Nat)(a0 a1 a2:Int)(a3:Bool)(a4:Int)(a5:List Int)(a6:Nat)(a7 a8 a9:Int)(a10:Bool)(a11:WL rw_iLii)(r:Int×List (NL)×Int×Int×Bool)(h:qec_ n a0 a1 a2 a3 a4 a5 a6 a7 a8 a9 a10 a11=some r):qp7_ a0 a1 a2 a3 a4 a5 a6 a7 a8 a9 a10 a11 r:=by
 unfold qec_ at h
 obtain⟨⟨c1_0,c1_1,c1_2,c1_3,c1_4⟩,hc1,h⟩:=oB h
 dsimp only at h
 cases c1_1 with
 | nil=>
  dsimp only at h
  obtain rfl:=oI h
  exact runF2 hm (kW [] [(0,0,false),(1,1,false),(2,2,false),(3,3,false),(4,4,false),(5,5,false),(6,6,true),(7,7,false),(8,8,false)] 9 0) (ww (qgi_ n (rnd:=none) a4 a5 a6 a7 a8 a9 a10 a11 (((a11).l.length:Nat):Int) (a0,([]:List (NL)),a1,a2,a3,0) (c1_0,([]:List (NL)),c1_2,c1_3,c1_4) hc1) <|
   ww (qd_ a5 3) <|
   ll 5 ⟨(kW [0,5,6,7] [(0,0,false),(1,1,false),(2,2,false),(3,3,false),(4,4,false),(5,5,false),(6,6,true),(7,7,false),(8,8,false)] 9 0),(qba_ a4 a5 a6 a7 a8 a9 a10 a11 (((a11).l.length:Nat):Int) (c1_0,([]:List (NL)),c1_2,c1_3,c1_4)).1,(qba_ a4 a5 a6 a7 a8 a9 a10 a11 (((a11).l.length:Nat):Int) (c1_0,([]:List (NL)),c1_2,c1_3,c1_4)).2⟩ <|
   ww (qd_ a5 3) <|
   ee) (by kernel_rfl)
 | cons c1_1a c1_1t=>
  dsimp only at h
  obtain rfl:=oI h
  exact runF2 hm (kW [] [(0,0,false),(1,1,false),(2,2,false),(3,3,false),(4,4,false),(5,5,false),(6,6,true),(7,7,false),(8,8,false)] 9 0) (ww (qgi_ n (rnd:=none) a4 a5 a6 a7 a8 a9 a10 a11 (((a11).l.length:Nat):Int) (a0,([]:List (NL)),a1,a2,a3,0) (c1_0,(c1_1a::c1_1t),c1_2,c1_3,c1_4) hc1) <|
   ww (qd_ a5 3) <|
   ll 5 ⟨(kW [0,5,6,7] [(0,0,false),(1,1,false),(2,2,false),(3,3,false),(4,4,false),(5,5,false),(6,6,true),(7,7,false),(8,8,false)] 9 0),(qba_ a4 a5 a6 a7 a8 a9 a10 a11 (((a11).l.length:Nat):Int) (c1_0,(c1_1a::c1_1t),c1_2,c1_3,c1_4)).1,(qba_ a4 a5 a6 a7 a8 a9 a10 a11 (((a11).l.length:Nat):Int) (c1_0,(c1_1a::c1_1t),c1_2,c1_3,c1_4)).2⟩ <|
   ww (qd_ a5 3) <|
   ee) (by kernel_rfl)


end Go.Proofs.YthlikofobjhcoaaGreat.ptb28
