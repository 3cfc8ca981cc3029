/-
  What functions do, told by pure functions. No condition.
-/
import Derived.Test.YtdcocjjkfodjeaaSpcBTold
set_option linter.unusedSimpArgs false
set_option linter.unusedVariables false
set_option linter.unusedSectionVars false
set_option linter.unnecessarySimpa false
set_option maxRecDepth 100000
noncomputable section
namespace Go.Proofs.Ytdcocjjkfodjeaa.spc20
open Go Go.Proofs.Ytdcocjjkfodjeaa Ax
variable [Args]
def qg2_ (a0:W8)(a1:Int)(a2:W8)(a3:WL rw_iiiii):List Value:=[(wlV a0),(i6 a1),(wlV a2),(wlV a3)]
def qg3_ (a0:W8)(a1:Int)(a2:W8)(a3:WL rw_iiiii):AH:=⟨sB [],0,0⟩
def qjz_ (a0:W8)(a1:Int)(a2:W8)(a3:WL rw_iiiii)(r:W8×NL×Int):Value:=match r with
 | (o0,o1,o2)=>(Value.tuple #[(wlV o0),(nlV o1),(i6 o2)])
def qfi_ (a0:W8)(a1:Int)(a2:W8)(a3:WL rw_iiiii)(r:W8×NL×Int):AH:=match r with
 | (o0,o1,o2)=>⟨sB [],0,0⟩
abbrev qqm_ (a0:W8)(a1:Int)(a2:W8)(a3:WL rw_iiiii)(r:W8×NL×Int):Prop:=Gv P (.func 8) (qg2_ a0 a1 a2 a3) (qg3_ a0 a1 a2 a3) (qjz_ a0 a1 a2 a3 r) (qfi_ a0 a1 a2 a3 r)
abbrev qqn_ (a0:W8)(a1:Int)(a2:W8)(a3:WL rw_iiiii)(r:W8×NL×Int)(ins outs:BL):CallA:=⟨0,ins,qjz_ a0 a1 a2 a3 r,qfi_ a0 a1 a2 a3 r,outs⟩
def qeb_ (x0:W8)(x1:Int)(x2:W8)(x3:WL rw_iiiii)(st:Int×List Int×Int):XSt:=match st with
 | (x4,x5,x6)=>(sT 95 [(0,(wlV x0)),(1,(i6 x1)),(2,(wlV x2)),(3,(wlV x3)),(12,(Value.int .u64 x4)),(13,(slN x5 0)),(14,(i6 x6))],[],⟨sB [(0,(nblk x5 3))],1,0⟩)
def qbk_ (x0:W8)(x1:Int)(x2:W8)(x3:WL rw_iiiii)(r:Int×List Int):Ex×XSt:=match r with
 | (z0,z1)=>(.exit 0,(sT 95 [(0,(wlV x0)),(1,(i6 x1)),(2,(wlV x2)),(12,(Value.int .u64 z0)),(13,(slN z1 0))],[],⟨sB [(0,(nblk z1 3))],1,0⟩))
abbrev qo3_ (rnd:Option Nat)(x0:W8)(x1:Int)(x2:W8)(x3:WL rw_iiiii)(st:Int×List Int×Int)(c:Ex×XSt):Prop:=CG P rnd (fnN P 8) 0 (qp_ P 8 [false,false,true,false,true,true,true,true,true,true,true]) (qeb_ x0 x1 x2 x3 st) c
abbrev qo4_ (rd:Option Nat)(x0:W8)(x1:Int)(x2:W8)(x3:WL rw_iiiii)(st:Int×List Int×Int)(r:Int×List Int):Prop:=CG P rd (fnN P 8) 0 (qp_ P 8 [false,true,false,true,true,true,true,true,true,true]) (qeb_ x0 x1 x2 x3 st) (qbk_ x0 x1 x2 x3 r)
def q8_ (n:Nat)(x0:W8)(x1:Int)(x2:W8)(x3:WL rw_iiiii)(st:Int×List Int×Int):Option ((Int×List Int×Int) ⊕ (Int×List Int)):=match st with
 | (x4,x5,x6)=>
  match x5 with
  | []=>
   if x6<(((x3).l.length:Nat):Int) then
    if 0≤x6∧x6<(((x3).l.length:Nat):Int) then
     ((some (((x3).l).getD (x6).toNat (0,0,0,0,0)))).bind fun y3_=>
     (qb1_ n x0 x1 (y3_.1) (y3_.2.1) (y3_.2.2.1) (y3_.2.2.2.1) (y3_.2.2.2.2)).bind fun y4_=>
     if y4_=true then
      if 0≤(IntKind.u64.wrap (y3_.1)) then
       ((some (qoo_ .u64 x4 (shlV .u64 (1:Int) (IntKind.u64.wrap (y3_.1)))))).bind fun y7_=>
       some (.inl (y7_,[(y3_.1)],(w64 (x6+1))))
      else none
     else
      some (.inl (x4,([]:List Int),(w64 (x6+1))))
    else none
   else
    some (.inr (x4,([]:List Int)))
  | x5a::x5t=>
   if x6<(((x3).l.length:Nat):Int) then
    if 0≤x6∧x6<(((x3).l.length:Nat):Int) then
     ((some (((x3).l).getD (x6).toNat (0,0,0,0,0)))).bind fun y3_=>
     (qb1_ n x0 x1 (y3_.1) (y3_.2.1) (y3_.2.2.1) (y3_.2.2.2.1) (y3_.2.2.2.2)).bind fun y4_=>
     if y4_=true then
      if (((x5a::x5t)).length+1)*8≤140737488355328 then
       if 0≤(IntKind.u64.wrap (y3_.1)) then
        ((some (qoo_ .u64 x4 (shlV .u64 (1:Int) (IntKind.u64.wrap (y3_.1)))))).bind fun y8_=>
        some (.inl (y8_,((x5a::x5t) ++ [(y3_.1)]),(w64 (x6+1))))
       else none
      else none
     else
      some (.inl (x4,(x5a::x5t),(w64 (x6+1))))
    else none
   else
    some (.inr (x4,(x5a::x5t)))
def qgb_ (n:Nat)(x0:W8)(x1:Int)(x2:W8)(x3:WL rw_iiiii)(st:Int×List Int×Int):Option (Int×List Int):=iterM (q8_ n x0 x1 x2 x3) n st
theorem qi1_ (n:Nat){rnd:Option Nat}(x0:W8)(x1:Int)(x2:W8)(x3:WL rw_iiiii)(st:Int×List Int×Int)(o:(Int×List Int×Int) ⊕ (Int×List Int))(h:q8_ n x0 x1 x2 x3 st=some o):qo3_ rnd x0 x1 x2 x3 st (Sum.elim (fun s=>(.normal,qeb_ x0 x1 x2 x3 s)) (fun r=>qbk_ x0 x1 x2 x3 r) o):=by
 obtain⟨x4,x5,x6⟩:=st
 unfold q8_ at h
 dsimp only at h
 cases x5 with
 | nil=>
  dsimp only at h
  by_cases hy1:x6<(((x3).l.length:Nat):Int)
  ·rw[if_pos hy1] at h
   obtain⟨hy2,h⟩:=gd h
   obtain⟨y3_,hy3,h⟩:=oB h
   obtain⟨y4_,hy4,h⟩:=oB h
   have k0:=fun {A L l} (k:PL A L l)=>zz 5 (xdT hy1) <|
    zz 14 (xk14 (x3).num (x3).off (x3).cap hy2) <|
    zz 15 (lk15 hy3 (qj_ hy2)) <|
    yy 16 (.call (qhz_ x0 x1 (y3_.1) (y3_.2.1) (y3_.2.2.1) (y3_.2.2.2.1) (y3_.2.2.2.2) y4_ [] [])) <|
    ww (qgk_ n x0 x1 (y3_.1) (y3_.2.1) (y3_.2.2.1) (y3_.2.2.2.1) (y3_.2.2.2.2) y4_ hy4) <|
    k
   by_cases hy5:y4_=true
   ·rw[if_pos hy5] at h
    obtain⟨hy6,h⟩:=gd h
    obtain⟨y7_,hy7,h⟩:=oB h
    obtain rfl:=oI h
    exact runC2 hm (kW [0,1,2,3,12,13,14] [(0,2,false)] 1 0) (k0 <|
     zz 17 (xbT hy5) <|
     zz 22 (xk14 (x3).num (x3).off (x3).cap hy2) <|
     zz 23 (fk27 (x3).num (Nat.add (x3).off ((x6).toNat*5))) <|
     zz 24 (lk28 hy3 (qj_ hy2)) <|
     zz 31 (xk14 (x3).num (x3).off (x3).cap hy2) <|
     zz 32 (fk27 (x3).num (Nat.add (x3).off ((x6).toNat*5))) <|
     zz 33 (lk28 hy3 (qj_ hy2)) <|
     yy 35 (.pur (Value.int .u64 (shlV .u64 (1:Int) (IntKind.u64.wrap (y3_.1))))) <|
     ww (p:=opBin P .shl 41 (.const (Value.int .u64 (1:Int))) (.tmp 62) (Value.int .u64 (1:Int)) (Value.int .u64 (IntKind.u64.wrap (y3_.1))) Ax.h0=some ((Value.int .u64 (shlV .u64 (1:Int) (IntKind.u64.wrap (y3_.1)))),Ax.h0)) (qop_ hy6) <|
     zz 36 (xnmK (k:=.u64) hy7) <|
     ee) (by kernel_rfl)
   ·rw[if_neg hy5] at h
    obtain rfl:=oI h
    exact runC2 hm (kW [0,1,2,3,12,13,14] [] 1 0) (k0 <|
     zz 17 (xbF hy5) <|
     ee) (by kernel_rfl)
  ·rw[if_neg hy1] at h
   obtain rfl:=oI h
   exact runC2 hm (kW [0,1,2,12,13] [] 1 0) (zz 5 (xdF hy1) <|
    ee) (by kernel_rfl)
 | cons x5a x5t=>
  dsimp only at h
  by_cases hy1:x6<(((x3).l.length:Nat):Int)
  ·rw[if_pos hy1] at h
   obtain⟨hy2,h⟩:=gd h
   obtain⟨y3_,hy3,h⟩:=oB h
   obtain⟨y4_,hy4,h⟩:=oB h
   have k0:=fun {A L l} (k:PL A L l)=>zz 5 (xdT hy1) <|
    zz 14 (xk14 (x3).num (x3).off (x3).cap hy2) <|
    zz 15 (lk15 hy3 (qj_ hy2)) <|
    yy 16 (.call (qhz_ x0 x1 (y3_.1) (y3_.2.1) (y3_.2.2.1) (y3_.2.2.2.1) (y3_.2.2.2.2) y4_ [] [])) <|
    ww (qgk_ n x0 x1 (y3_.1) (y3_.2.1) (y3_.2.2.1) (y3_.2.2.2.1) (y3_.2.2.2.2) y4_ hy4) <|
    k
   by_cases hy5:y4_=true
   ·rw[if_pos hy5] at h
    obtain⟨hy6,h⟩:=gd h
    obtain⟨hy7,h⟩:=gd h
    obtain⟨y8_,hy8,h⟩:=oB h
    obtain rfl:=oI h
    exact runC2 hm (kW [0,1,2,3,12,13,14] [(0,2,true)] 1 0) (k0 <|
     zz 17 (xbT hy5) <|
     zz 22 (xk14 (x3).num (x3).off (x3).cap hy2) <|
     zz 23 (fk27 (x3).num (Nat.add (x3).off ((x6).toNat*5))) <|
     zz 24 (lk28 hy3 (qj_ hy2)) <|
     yy 26 (.app ⟨none,iv (x5a::x5t),(iv ((x5a::x5t) ++ [(y3_.1)])),(((x5a::x5t) ++ [(y3_.1)])).length,false⟩) <|
     ww (p:=0<1) ((by decide)) <|
     ww (p:=rdT (layT (iv (x5a::x5t))) (Nat.mul ((x5a::x5t)).length 1) 0=some (iv (x5a::x5t))) (iv_rd _) <|
     ww (p:=fits (Nat.add ((x5a::x5t)).length 1) 8=true) (fits_ok hy6 (by have:=hy6; show (_:Nat)+_≤_; omega)) <|
     ww (p:=qm_ [(i6 (y3_.1))]=true) (rfl) <|
     ww (p:=qm_ (iv (x5a::x5t))=true) (qpf_ _) <|
     ww (p:=iv (x5a::x5t) ++ [(i6 (y3_.1))]=(iv ((x5a::x5t) ++ [(y3_.1)]))) (by simp[iv]) <|
     ww (p:=Nat.add ((x5a::x5t)).length 1=(((x5a::x5t) ++ [(y3_.1)])).length) (by simp) <|
     zz 31 (xk14 (x3).num (x3).off (x3).cap hy2) <|
     zz 32 (fk27 (x3).num (Nat.add (x3).off ((x6).toNat*5))) <|
     zz 33 (lk28 hy3 (qj_ hy2)) <|
     yy 35 (.pur (Value.int .u64 (shlV .u64 (1:Int) (IntKind.u64.wrap (y3_.1))))) <|
     ww (p:=opBin P .shl 41 (.const (Value.int .u64 (1:Int))) (.tmp 62) (Value.int .u64 (1:Int)) (Value.int .u64 (IntKind.u64.wrap (y3_.1))) Ax.h0=some ((Value.int .u64 (shlV .u64 (1:Int) (IntKind.u64.wrap (y3_.1)))),Ax.h0)) (qop_ hy7) <|
     zz 36 (xnmK (k:=.u64) hy8) <|
     ww (qco_ ((x5a::x5t) ++ [(y3_.1)]) 3) <|
     ee) (by kernel_rfl)
   ·rw[if_neg hy5] at h
    obtain rfl:=oI h
    exact runC2 hm (kW [0,1,2,3,12,13,14] [(0,0,true)] 1 0) (k0 <|
     zz 17 (xbF hy5) <|
     ww (qco_ (x5a::x5t) 3) <|
     ee) (by kernel_rfl)
  ·rw[if_neg hy1] at h
   obtain rfl:=oI h
   exact runC2 hm (kW [0,1,2,12,13] [(0,0,true)] 1 0) (zz 5 (xdF hy1) <|
    ww (qco_ (x5a::x5t) 3) <|
    ee) (by kernel_rfl)
theorem qhi_ (n:Nat){rnd:Option Nat}(x0:W8)(x1:Int)(x2:W8)(x3:WL rw_iiiii)(st:Int×List Int×Int)(r:Int×List Int)(h:qgb_ n x0 x1 x2 x3 st=some r):qo4_ rnd x0 x1 x2 x3 st r:=
 CG.iter (b:=qp_ P 8 [false,false,true,false,true,true,true,true,true,true,true]) (by kernel_rfl) (body:=q8_ n x0 x1 x2 x3) (S:=qeb_ x0 x1 x2 x3) (X:=qbk_ x0 x1 x2 x3)
  (fun s s' h=>qi1_ n x0 x1 x2 x3 s (.inl s') h)
  (fun s r h=>qi1_ n x0 x1 x2 x3 s (.inr r) h)
  (fun r=>by intro hx; cases hx) h
def q5_ (n:Nat)(a0:W8)(a1:Int)(a2:W8)(a3:WL rw_iiiii):Option (W8×NL×Int):=
 (qe_ n a0).bind fun c1_=>
 if c1_=0 then
  (qe_ n a2).bind fun c3_=>
  if c3_=0 then
   (qdh_ n a0 a1 a2).bind fun c5_=>
   if c5_=true then
    (qe3_ n a0 a1).bind fun c7_=>
    (qdi_ n c7_).bind fun c8_=>
    (qgb_ n a0 a1 a2 a3 (c8_,([]:List Int),0)).bind fun t=>match t with
    | (c9_0,c9_1)=>
     match c9_1 with
     | []=>
      (qbu_ n a0).bind fun c10_=>
      if 0≤a1∧a1<(((c10_).l.length:Nat):Int) then
       if (a1).toNat<((c10_).l).length then
        ((some (((c10_).l).getD (a1).toNat 0))).bind fun c13_=>
        match qci_ n a0 a1 a2 with
        | none=>none
        | some (.inl c14_)=>
         if c14_=0 then
          if c13_ ≥ 0 then
           none
          else
           some ((wl0:W8),nl0,0)
         else
          some ((wl0:W8),nl0,c14_)
        | some (.inr c14_)=>
         if c13_ ≥ 0 then
          if 0≤c13_∧c13_<(((c14_).length:Nat):Int) then
           ((some ((c14_).getD (c13_).toNat (0,0,0,0,0,0,nl0,0)))).bind fun c17_=>
           if (c14_).length=((c14_).set (c13_).toNat ((c17_.1),(c17_.2.1),(c17_.2.2.1),(c17_.2.2.2.1),(c17_.2.2.2.2.1),(c17_.2.2.2.2.2.1),(c17_.2.2.2.2.2.2.1),(bOr .u64 (c17_.2.2.2.2.2.2.2) c9_0))).length then
            if hc19:((c14_).set (c13_).toNat ((c17_.1),(c17_.2.1),(c17_.2.2.1),(c17_.2.2.2.1),(c17_.2.2.2.2.1),(c17_.2.2.2.2.2.1),(c17_.2.2.2.2.2.2.1),(bOr .u64 (c17_.2.2.2.2.2.2.2) c9_0))).length≤9223372036854775807 then
             some ((frzR qc_ ((c14_).set (c13_).toNat ((c17_.1),(c17_.2.1),(c17_.2.2.1),(c17_.2.2.2.1),(c17_.2.2.2.2.1),(c17_.2.2.2.2.2.1),(c17_.2.2.2.2.2.2.1),(bOr .u64 (c17_.2.2.2.2.2.2.2) c9_0))) hc19),nl0,0)
            else none
           else none
          else none
         else
          if hc16:c14_.length≤9223372036854775807 then
           some ((frzR qc_ c14_ hc16),nl0,0)
          else none
       else none
      else none
     | c9_1a::c9_1t=>
      (qbu_ n a0).bind fun c10_=>
      if 0≤a1∧a1<(((c10_).l.length:Nat):Int) then
       if (a1).toNat<((c10_).l).length then
        ((some (((c10_).l).getD (a1).toNat 0))).bind fun c13_=>
        match qci_ n a0 a1 a2 with
        | none=>none
        | some (.inl c14_)=>
         if c14_=0 then
          if c13_ ≥ 0 then
           none
          else
           if hc17:(c9_1a::c9_1t).length≤140737488355328 then
            some ((wl0:W8),(frzL (c9_1a::c9_1t) hc17),0)
           else none
         else
          some ((wl0:W8),nl0,c14_)
        | some (.inr c14_)=>
         if c13_ ≥ 0 then
          if 0≤c13_∧c13_<(((c14_).length:Nat):Int) then
           ((some ((c14_).getD (c13_).toNat (0,0,0,0,0,0,nl0,0)))).bind fun c17_=>
           if hc18:(c9_1a::c9_1t).length≤140737488355328 then
            if (c14_).length=((c14_).set (c13_).toNat ((c17_.1),(c17_.2.1),(c17_.2.2.1),(c17_.2.2.2.1),(c17_.2.2.2.2.1),(c17_.2.2.2.2.2.1),(c17_.2.2.2.2.2.2.1),(bOr .u64 (c17_.2.2.2.2.2.2.2) c9_0))).length then
             if hc20:((c14_).set (c13_).toNat ((c17_.1),(c17_.2.1),(c17_.2.2.1),(c17_.2.2.2.1),(c17_.2.2.2.2.1),(c17_.2.2.2.2.2.1),(c17_.2.2.2.2.2.2.1),(bOr .u64 (c17_.2.2.2.2.2.2.2) c9_0))).length≤9223372036854775807 then
              some ((frzR qc_ ((c14_).set (c13_).toNat ((c17_.1),(c17_.2.1),(c17_.2.2.1),(c17_.2.2.2.1),(c17_.2.2.2.2.1),(c17_.2.2.2.2.2.1),(c17_.2.2.2.2.2.2.1),(bOr .u64 (c17_.2.2.2.2.2.2.2) c9_0))) hc20),(frzL (c9_1a::c9_1t) hc18),0)
             else none
            else none
           else none
          else none
         else
          if hc16:(c9_1a::c9_1t).length≤140737488355328 then
           if hc17:c14_.length≤9223372036854775807 then
            some ((frzR qc_ c14_ hc17),(frzL (c9_1a::c9_1t) hc16),0)
           else none
          else none
       else none
      else none
   else
    some ((wl0:W8),nl0,2)
  else
   some ((wl0:W8),nl0,c3_)
 else
  some ((wl0:W8),nl0,c1_)
theorem qob_ (n:Nat)(a0:W8)(a1:Int)(a2:W8)(a3:WL rw_iiiii)(r:W8×NL×Int)(h:q5_ n a0 a1 a2 a3=some r):qqm_ a0 a1 a2 a3 r:=by
 unfold q5_ at h
 obtain⟨c1_,hc1,h⟩:=oB h
 have k0:=fun {A L l} (k:PL A L l)=>yy 6 (.call (q1_ a0 c1_ [] [])) <|
  ww (qw_ n a0 c1_ hc1) <|
  k
 by_cases hc2:c1_=0
 ·rw[if_pos hc2] at h
  obtain⟨c3_,hc3,h⟩:=oB h
  have k2:=fun {A L l} (k:PL A L l)=>zz 11 (xeT hc2) <|
   yy 14 (.call (q1_ a2 c3_ [] [])) <|
   ww (qw_ n a2 c3_ hc3) <|
   k
  by_cases hc4:c3_=0
  ·rw[if_pos hc4] at h
   obtain⟨c5_,hc5,h⟩:=oB h
   have k5:=fun {A L l} (k:PL A L l)=>zz 19 (xnF hc4) <|
    yy 26 (.call (qlj_ a0 a1 a2 c5_ [] [])) <|
    ww (qjd_ n a0 a1 a2 c5_ hc5) <|
    k
   by_cases hc6:c5_=true
   ·rw[if_pos hc6] at h
    obtain⟨c7_,hc7,h⟩:=oB h
    obtain⟨c8_,hc8,h⟩:=oB h
    obtain⟨⟨c9_0,c9_1⟩,hc9,h⟩:=oB h
    dsimp only at h
    have k8:=fun {A L l} (k:PL A L l)=>yy 27 (vf) <|
     ww (p:=(Value.bool (!c5_))=(Value.bool false)) (vBn hc6) <|
     yy 32 (.call (qtp_ a0 a1 c7_ [] [])) <|
     ww (qqh_ n a0 a1 c7_ hc7) <|
     yy 33 (.call (qlm_ c7_ c8_ [] [])) <|
     ww (qjg_ n c7_ c8_ hc8) <|
     k
    cases c9_1 with
    | nil=>
     dsimp only at h
     obtain⟨c10_,hc10,h⟩:=oB h
     obtain⟨hc11,h⟩:=gd h
     obtain⟨hc12,h⟩:=gd h
     obtain⟨c13_,hc13,h⟩:=oB h
     have k14:=fun {A L l} (k:PL A L l)=>ww (qhi_ n (rnd:=none) a0 a1 a2 a3 (c8_,([]:List Int),0) (c9_0,([]:List Int)) hc9) <|
      ll 41 ⟨(kW [0,1,2,3,12,13,14] [] 1 0),(qbk_ a0 a1 a2 a3 (c9_0,([]:List Int))).1,(qbk_ a0 a1 a2 a3 (c9_0,([]:List Int))).2⟩ <|
      yy 44 (.call (qjk_ a0 c10_ [] [])) <|
      ww (qhx_ n a0 c10_ hc10) <|
      zz 46 (xk8 (Nat.add (c10_).num 64) (c10_).off (c10_).cap hc11) <|
      zz 47 (nk9 hc13 hc12) <|
      k
     rcases hc14:qci_ n a0 a1 a2 with _ | (c14_ | c14_)
     ·rw[hc14] at h; cases h
     ·rw[hc14] at h
      dsimp only at h
      have k20:=fun {A L l} (k:PL A L l)=>yy 53 (.call (qgm_ a0 a1 a2 (.inl c14_) [] [])) <|
       ww (qfh_ n a0 a1 a2 (.inl c14_) hc14) <|
       k
      by_cases hc15:c14_=0
      ·rw[if_pos hc15] at h
       have k22:=fun {A L l} (k:PL A L l)=>zz 62 (xnF hc15) <|
        k
       by_cases hc16:c13_ ≥ 0
       ·rw[if_pos hc16] at h
        cases h
       ·rw[if_neg hc16] at h
        obtain rfl:=oI h
        exact runF2 hm ⟨[8,9,10],[],0,0,[],true,[],[],[8,9]⟩ (k0 <|
         k2 <|
         k5 <|
         k8 <|
         k14 <|
         k20 <|
         k22 <|
         zz 67 (xdF hc16) <|
         ee) (by kernel_rfl)
      ·rw[if_neg hc15] at h
       obtain rfl:=oI h
       exact runF2 hm ⟨[8,9,10],[],0,0,[],true,[],[],[8,9]⟩ (k0 <|
        k2 <|
        k5 <|
        k8 <|
        k14 <|
        k20 <|
        zz 62 (xnT hc15) <|
        ee) (by kernel_rfl)
     ·rw[hc14] at h
      dsimp only at h
      have k20:=fun {A L l} (k:PL A L l)=>yy 53 (.call (qgm_ a0 a1 a2 (.inr c14_) [] [(1,0,true)])) <|
       ww (qfh_ n a0 a1 a2 (.inr c14_) hc14) <|
       ww (qb_ rwf_iiiiiiLu c14_ 46) <|
       k
      by_cases hc15:c13_ ≥ 0
      ·rw[if_pos hc15] at h
       obtain⟨hc16,h⟩:=gd h
       obtain⟨c17_,hc17,h⟩:=oB h
       obtain⟨hc18,h⟩:=gd h
       obtain⟨hc19,h⟩:=gdD h
       obtain rfl:=oI h
       have k0_:Gv P (.func 8) (qg2_ a0 a1 a2 a3) (qg3_ a0 a1 a2 a3) (Value.tuple #[(Value.slice (some ⟨Nat.add (2*codL (rows rw_iiiiiiLu ((c14_).set (c13_).toNat ((c17_.1),(c17_.2.1),(c17_.2.2.1),(c17_.2.2.2.1),(c17_.2.2.2.2.1),(c17_.2.2.2.2.2.1),(c17_.2.2.2.2.2.2.1),(bOr .u64 (c17_.2.2.2.2.2.2.2) c9_0))))+1) 64,0,some 1⟩) ((c14_).length) (Nat.add big ((c14_).length))),(nlV nl0),(i6 (0:Int))]) (qfi_ a0 a1 a2 a3 ((frzR qc_ ((c14_).set (c13_).toNat ((c17_.1),(c17_.2.1),(c17_.2.2.1),(c17_.2.2.2.1),(c17_.2.2.2.2.1),(c17_.2.2.2.2.2.1),(c17_.2.2.2.2.2.2.1),(bOr .u64 (c17_.2.2.2.2.2.2.2) c9_0))) hc19),nl0,0)):=runF2 hm ⟨[8,9,10],[],0,0,[(1,Nat.add (2*codL (rows rw_iiiiiiLu ((c14_).set (c13_).toNat ((c17_.1),(c17_.2.1),(c17_.2.2.1),(c17_.2.2.2.1),(c17_.2.2.2.2.1),(c17_.2.2.2.2.2.1),(c17_.2.2.2.2.2.2.1),(bOr .u64 (c17_.2.2.2.2.2.2.2) c9_0))))+1) 64)],true,[],[],[9]⟩ (k0 <|
       k2 <|
       k5 <|
       k8 <|
       k14 <|
       k20 <|
       zz 67 (xdT hc15) <|
       zz 73 (xk3 1 U8 hc16) <|
       zz 75 (ok20 hc17 (qj_ hc16)) <|
       zz 78 (xk3 1 U8 hc16) <|
       z2 80 (ste (k:=1) (qf9_ rwf_iiiiiiLu (0,0,0,0,0,0,nl0,0) (hr:=hc17) (i:=(c13_).toNat) (j:=7) (l:=[(Value.int .u64 (bOr .u64 (c17_.2.2.2.2.2.2.2) c9_0))]) ((c17_.1),(c17_.2.1),(c17_.2.2.1),(c17_.2.2.2.1),(c17_.2.2.2.2.1),(c17_.2.2.2.2.2.1),(c17_.2.2.2.2.2.2.1),(bOr .u64 (c17_.2.2.2.2.2.2.2) c9_0)) (Nat.add ((c13_).toNat*8) 7) rfl (qj_ hc16) (Nat.le_of_ble_eq_true rfl) rfl)) <|
       ww (qf5_ ql_ q2_ qc_ ((c14_).set (c13_).toNat ((c17_.1),(c17_.2.1),(c17_.2.2.1),(c17_.2.2.2.1),(c17_.2.2.2.2.1),(c17_.2.2.2.2.2.1),(c17_.2.2.2.2.2.2.1),(bOr .u64 (c17_.2.2.2.2.2.2.2) c9_0)))) <|
       ee) (by kernel_rfl)
       have k1_:=gvLen (fn:=fun m_=>(Value.tuple #[(Value.slice (some ⟨Nat.add (2*codL (rows rw_iiiiiiLu ((c14_).set (c13_).toNat ((c17_.1),(c17_.2.1),(c17_.2.2.1),(c17_.2.2.2.1),(c17_.2.2.2.2.1),(c17_.2.2.2.2.2.1),(c17_.2.2.2.2.2.2.1),(bOr .u64 (c17_.2.2.2.2.2.2.2) c9_0))))+1) 64,0,some 1⟩) m_ (Nat.add big m_)),(nlV nl0),(i6 (0:Int))])) hc18 k0_
       exact k1_
      ·rw[if_neg hc15] at h
       obtain⟨hc16,h⟩:=gdD h
       obtain rfl:=oI h
       exact runF2 hm ⟨[8,9,10],[],0,0,[(1,Nat.add (2*codL (rows rw_iiiiiiLu c14_)+1) 64)],true,[],[],[9]⟩ (k0 <|
        k2 <|
        k5 <|
        k8 <|
        k14 <|
        k20 <|
        zz 67 (xdF hc15) <|
        ww (qf5_ ql_ q2_ qc_ c14_) <|
        ee) (by kernel_rfl)
    | cons c9_1a c9_1t=>
     dsimp only at h
     obtain⟨c10_,hc10,h⟩:=oB h
     obtain⟨hc11,h⟩:=gd h
     obtain⟨hc12,h⟩:=gd h
     obtain⟨c13_,hc13,h⟩:=oB h
     have k14:=fun {A L l} (k:PL A L l)=>ww (qhi_ n (rnd:=none) a0 a1 a2 a3 (c8_,([]:List Int),0) (c9_0,(c9_1a::c9_1t)) hc9) <|
      ll 41 ⟨(kW [0,1,2,3,12,13,14] [] 1 0),(qbk_ a0 a1 a2 a3 (c9_0,(c9_1a::c9_1t))).1,(qbk_ a0 a1 a2 a3 (c9_0,(c9_1a::c9_1t))).2⟩ <|
      yy 44 (.call (qjk_ a0 c10_ [] [])) <|
      ww (qhx_ n a0 c10_ hc10) <|
      zz 46 (xk8 (Nat.add (c10_).num 64) (c10_).off (c10_).cap hc11) <|
      zz 47 (nk9 hc13 hc12) <|
      k
     rcases hc14:qci_ n a0 a1 a2 with _ | (c14_ | c14_)
     ·rw[hc14] at h; cases h
     ·rw[hc14] at h
      dsimp only at h
      have k20:=fun {A L l} (k:PL A L l)=>yy 53 (.call (qgm_ a0 a1 a2 (.inl c14_) [] [])) <|
       ww (qfh_ n a0 a1 a2 (.inl c14_) hc14) <|
       k
      by_cases hc15:c14_=0
      ·rw[if_pos hc15] at h
       have k22:=fun {A L l} (k:PL A L l)=>zz 62 (xnF hc15) <|
        k
       by_cases hc16:c13_ ≥ 0
       ·rw[if_pos hc16] at h
        cases h
       ·rw[if_neg hc16] at h
        obtain⟨hc17,h⟩:=gdD h
        obtain rfl:=oI h
        exact runF2 hm ⟨[8,9,10],[],0,0,[(0,Nat.add (2*cod (c9_1a::c9_1t)+1) 64)],true,[],[],[8]⟩ (k0 <|
         k2 <|
         k5 <|
         k8 <|
         k14 <|
         k20 <|
         k22 <|
         zz 67 (xdF hc16) <|
         ww (qon_ ql_ q2_ (c9_1a::c9_1t)) <|
         ee) (by kernel_rfl)
      ·rw[if_neg hc15] at h
       obtain rfl:=oI h
       exact runF2 hm ⟨[8,9,10],[],0,0,[],true,[],[],[8,9]⟩ (k0 <|
        k2 <|
        k5 <|
        k8 <|
        k14 <|
        k20 <|
        zz 62 (xnT hc15) <|
        ee) (by kernel_rfl)
     ·rw[hc14] at h
      dsimp only at h
      have k20:=fun {A L l} (k:PL A L l)=>yy 53 (.call (qgm_ a0 a1 a2 (.inr c14_) [] [(1,0,true)])) <|
       ww (qfh_ n a0 a1 a2 (.inr c14_) hc14) <|
       ww (qb_ rwf_iiiiiiLu c14_ 46) <|
       k
      by_cases hc15:c13_ ≥ 0
      ·rw[if_pos hc15] at h
       obtain⟨hc16,h⟩:=gd h
       obtain⟨c17_,hc17,h⟩:=oB h
       obtain⟨hc18,h⟩:=gdD h
       replace h:=gd h
       obtain⟨hc19,h⟩:=h
       replace h:=gdD h
       obtain⟨hc20,h⟩:=h
       obtain rfl:=oI h
       have k0_:Gv P (.func 8) (qg2_ a0 a1 a2 a3) (qg3_ a0 a1 a2 a3) (Value.tuple #[(Value.slice (some ⟨Nat.add (2*codL (rows rw_iiiiiiLu ((c14_).set (c13_).toNat ((c17_.1),(c17_.2.1),(c17_.2.2.1),(c17_.2.2.2.1),(c17_.2.2.2.2.1),(c17_.2.2.2.2.2.1),(c17_.2.2.2.2.2.2.1),(bOr .u64 (c17_.2.2.2.2.2.2.2) c9_0))))+1) 64,0,some 1⟩) ((c14_).length) (Nat.add big ((c14_).length))),(nlV (frzL (c9_1a::c9_1t) hc18)),(i6 (0:Int))]) (qfi_ a0 a1 a2 a3 ((frzR qc_ ((c14_).set (c13_).toNat ((c17_.1),(c17_.2.1),(c17_.2.2.1),(c17_.2.2.2.1),(c17_.2.2.2.2.1),(c17_.2.2.2.2.2.1),(c17_.2.2.2.2.2.2.1),(bOr .u64 (c17_.2.2.2.2.2.2.2) c9_0))) hc20),(frzL (c9_1a::c9_1t) hc18),0)):=runF2 hm ⟨[8,9,10],[],0,0,[(0,Nat.add (2*cod (c9_1a::c9_1t)+1) 64),(1,Nat.add (2*codL (rows rw_iiiiiiLu ((c14_).set (c13_).toNat ((c17_.1),(c17_.2.1),(c17_.2.2.1),(c17_.2.2.2.1),(c17_.2.2.2.2.1),(c17_.2.2.2.2.2.1),(c17_.2.2.2.2.2.2.1),(bOr .u64 (c17_.2.2.2.2.2.2.2) c9_0))))+1) 64)],true,[],[],[]⟩ (k0 <|
       k2 <|
       k5 <|
       k8 <|
       k14 <|
       k20 <|
       zz 67 (xdT hc15) <|
       zz 73 (xk3 1 U8 hc16) <|
       zz 75 (ok20 hc17 (qj_ hc16)) <|
       zz 78 (xk3 1 U8 hc16) <|
       z2 80 (ste (k:=1) (qf9_ rwf_iiiiiiLu (0,0,0,0,0,0,nl0,0) (hr:=hc17) (i:=(c13_).toNat) (j:=7) (l:=[(Value.int .u64 (bOr .u64 (c17_.2.2.2.2.2.2.2) c9_0))]) ((c17_.1),(c17_.2.1),(c17_.2.2.1),(c17_.2.2.2.1),(c17_.2.2.2.2.1),(c17_.2.2.2.2.2.1),(c17_.2.2.2.2.2.2.1),(bOr .u64 (c17_.2.2.2.2.2.2.2) c9_0)) (Nat.add ((c13_).toNat*8) 7) rfl (qj_ hc16) (Nat.le_of_ble_eq_true rfl) rfl)) <|
       ww (qon_ ql_ q2_ (c9_1a::c9_1t)) <|
       ww (qf5_ ql_ q2_ qc_ ((c14_).set (c13_).toNat ((c17_.1),(c17_.2.1),(c17_.2.2.1),(c17_.2.2.2.1),(c17_.2.2.2.2.1),(c17_.2.2.2.2.2.1),(c17_.2.2.2.2.2.2.1),(bOr .u64 (c17_.2.2.2.2.2.2.2) c9_0)))) <|
       ee) (by kernel_rfl)
       have k1_:=gvLen (fn:=fun m_=>(Value.tuple #[(Value.slice (some ⟨Nat.add (2*codL (rows rw_iiiiiiLu ((c14_).set (c13_).toNat ((c17_.1),(c17_.2.1),(c17_.2.2.1),(c17_.2.2.2.1),(c17_.2.2.2.2.1),(c17_.2.2.2.2.2.1),(c17_.2.2.2.2.2.2.1),(bOr .u64 (c17_.2.2.2.2.2.2.2) c9_0))))+1) 64,0,some 1⟩) m_ (Nat.add big m_)),(nlV (frzL (c9_1a::c9_1t) hc18)),(i6 (0:Int))])) hc19 k0_
       exact k1_
      ·rw[if_neg hc15] at h
       obtain⟨hc16,h⟩:=gdD h
       replace h:=gdD h
       obtain⟨hc17,h⟩:=h
       obtain rfl:=oI h
       exact runF2 hm ⟨[8,9,10],[],0,0,[(0,Nat.add (2*cod (c9_1a::c9_1t)+1) 64),(1,Nat.add (2*codL (rows rw_iiiiiiLu c14_)+1) 64)],true,[],[],[]⟩ (k0 <|
        k2 <|
        k5 <|
        k8 <|
        k14 <|
        k20 <|
        zz 67 (xdF hc15) <|
        ww (qon_ ql_ q2_ (c9_1a::c9_1t)) <|
        ww (qf5_ ql_ q2_ qc_ c14_) <|
        ee) (by kernel_rfl)
   ·rw[if_neg hc6] at h
    obtain rfl:=oI h
    exact runF2 hm ⟨[8,9,10],[],0,0,[],true,[],[],[8,9]⟩ (k0 <|
     k2 <|
     k5 <|
     yy 27 (vt) <|
     ww (p:=(Value.bool (!c5_))=(Value.bool true)) (vBn (Bool.eq_false_iff.2 hc6)) <|
     ee) (by kernel_rfl)
  ·rw[if_neg hc4] at h
   obtain rfl:=oI h
   exact runF2 hm ⟨[8,9,10],[],0,0,[],true,[],[],[8,9]⟩ (k0 <|
    k2 <|
    zz 19 (xnT hc4) <|
    ee) (by kernel_rfl)
 ·rw[if_neg hc2] at h
  obtain rfl:=oI h
  exact runF2 hm ⟨[8,9,10],[],0,0,[],true,[],[],[8,9]⟩ (k0 <|
   zz 11 (xeF hc2) <|
   zz 16 (xnT hc2) <|
   ee) (by kernel_rfl)

def qlr_ (a0 a1:W8)(r:Bool):Value:=match r with
 | o0=>(bO o0)
def qls_ (a0 a1:W8)(r:Bool):AH:=match r with
 | o0=>⟨sB [],0,0⟩
abbrev qsi_ (a0 a1:W8)(r:Bool):Prop:=Gv P (.func 11) [(wlV a0),(wlV a1)] ⟨sB [],0,0⟩ (qlr_ a0 a1 r) (qls_ a0 a1 r)
abbrev qef_ (a0 a1:W8)(r:Bool)(ins outs:BL):CallA:=⟨0,ins,qlr_ a0 a1 r,qls_ a0 a1 r,outs⟩
def qfj_ (x0 x1:W8)(x2 x3 x4 x5 x6 x7 x8:Int)(x9:NL)(x10 x11 x12 x13 x14 x15 x16:Int)(x17:NL)(x18 st:Int):XSt:=match st with
 | x19=>(sT 102 [(0,(wlV x0)),(1,(wlV x1)),(5,(i6 x2)),(6,(pN 0 0)),(7,(pN 1 0)),(8,(i6 x19))],[],⟨sB [(0,(cB [(i6 x3),(i6 x4),(i6 x5),(i6 x6),(i6 x7),(i6 x8),(nlV x9),(Value.int .u64 x10)] 46)),(1,(cB [(i6 x11),(i6 x12),(i6 x13),(i6 x14),(i6 x15),(i6 x16),(nlV x17),(Value.int .u64 x18)] 46))],2,0⟩)
def qb6_ (x0 x1:W8)(x2 x3 x4 x5 x6 x7 x8:Int)(x9:NL)(x10 x11 x12 x13 x14 x15 x16:Int)(x17:NL)(x18:Int)(r:(Unit) ⊕ (Unit)):Ex×XSt:=match r with
 | .inl _=>(.ret,(sT 102 [(4,(bO false))],[],⟨sB [],0,0⟩))
 | .inr _=>(.exit 2,(sT 102 [(0,(wlV x0)),(1,(wlV x1)),(5,(i6 x2))],[],⟨sB [],0,0⟩))
abbrev qqo_ (rd:Option Nat)(x0 x1:W8)(x2 x3 x4 x5 x6 x7 x8:Int)(x9:NL)(x10 x11 x12 x13 x14 x15 x16:Int)(x17:NL)(x18 st:Int)(r:(Unit) ⊕ (Unit)):Prop:=CG P rd (fnN P 11) 0 (qp_ P 11 [false,true,true,true,false,false,true,false,false,true,false,true,true]) (qfj_ x0 x1 x2 x3 x4 x5 x6 x7 x8 x9 x10 x11 x12 x13 x14 x15 x16 x17 x18 st) (qb6_ x0 x1 x2 x3 x4 x5 x6 x7 x8 x9 x10 x11 x12 x13 x14 x15 x16 x17 x18 r)
def qb7_ (n:Nat)(x0 x1:W8)(x2 x3 x4 x5 x6 x7 x8:Int)(x9:NL)(x10 x11 x12 x13 x14 x15 x16:Int)(x17:NL)(x18 st:Int):Option ((Int) ⊕ ((Unit) ⊕ (Unit))):=match st with
 | x19=>
  if x19<(((x9).l.length:Nat):Int) then
   if 0≤x19∧x19<(((x9).l.length:Nat):Int) then
    if (x19).toNat<((x9).l).length then
     ((some (((x9).l).getD (x19).toNat 0))).bind fun y4_=>
     if 0≤x19∧x19<(((x17).l.length:Nat):Int) then
      if (x19).toNat<((x17).l).length then
       ((some (((x17).l).getD (x19).toNat 0))).bind fun y7_=>
       if y4_=y7_ then
        some (.inl (w64 (x19+1)))
       else
        some (.inr (.inl ()))
      else none
     else none
    else none
   else none
  else
   some (.inr (.inr ()))
def qfk_ (n:Nat)(x0 x1:W8)(x2 x3 x4 x5 x6 x7 x8:Int)(x9:NL)(x10 x11 x12 x13 x14 x15 x16:Int)(x17:NL)(x18 st:Int):Option ((Unit) ⊕ (Unit)):=iterM (qb7_ n x0 x1 x2 x3 x4 x5 x6 x7 x8 x9 x10 x11 x12 x13 x14 x15 x16 x17 x18) n st
theorem qj0_ (n:Nat){rnd:Option Nat}(x0 x1:W8)(x2 x3 x4 x5 x6 x7 x8:Int)(x9:NL)(x10 x11 x12 x13 x14 x15 x16:Int)(x17:NL)(x18 x19:Int)(o:(Int) ⊕ ((Unit) ⊕ (Unit)))(h:qb7_ n x0 x1 x2 x3 x4 x5 x6 x7 x8 x9 x10 x11 x12 x13 x14 x15 x16 x17 x18 x19=some o):CG P rnd (fnN P 11) 0 (qp_ P 11 [false,false,true,true,true,false,false,true,false,false,true,false,true,true]) (qfj_ x0 x1 x2 x3 x4 x5 x6 x7 x8 x9 x10 x11 x12 x13 x14 x15 x16 x17 x18 x19) (Sum.elim (fun s=>(.normal,qfj_ x0 x1 x2 x3 x4 x5 x6 x7 x8 x9 x10 x11 x12 x13 x14 x15 x16 x17 x18 s)) (fun r=>qb6_ x0 x1 x2 x3 x4 x5 x6 x7 x8 x9 x10 x11 x12 x13 x14 x15 x16 x17 x18 r) o):=by
 unfold qb7_ at h
 dsimp only at h
 by_cases hy1:x19<(((x9).l.length:Nat):Int)
 ·rw[if_pos hy1] at h
  obtain⟨hy2,h⟩:=gd h
  obtain⟨hy3,h⟩:=gd h
  obtain⟨y4_,hy4,h⟩:=oB h
  obtain⟨hy5,h⟩:=gd h
  obtain⟨hy6,h⟩:=gd h
  obtain⟨y7_,hy7,h⟩:=oB h
  have k0:=fun {A L l} (k:PL A L l)=>zz 6 (xdT hy1) <|
   zz 14 (xk8 (Nat.add (x9).num 64) (x9).off (x9).cap hy2) <|
   zz 15 (nk9 hy4 hy3) <|
   zz 19 (xk8 (Nat.add (x17).num 64) (x17).off (x17).cap hy5) <|
   zz 20 (nk9 hy7 hy6) <|
   k
  by_cases hy8:y4_=y7_
  ·rw[if_pos hy8] at h
   obtain rfl:=oI h
   exact runC2 hm (kW [0,1,5,6,7,8] (iD 2) 2 0) (k0 <|
    zz 21 (xnF hy8) <|
    ee) (by kernel_rfl)
  ·rw[if_neg hy8] at h
   obtain rfl:=oI h
   exact runC2 hm (kW [4] [] 0 0) (k0 <|
    zz 21 (xnT hy8) <|
    ee) (by kernel_rfl)
 ·rw[if_neg hy1] at h
  obtain rfl:=oI h
  exact runC2 hm (kW [0,1,5] [] 0 0) (zz 6 (xdF hy1) <|
   ee) (by kernel_rfl)
theorem qh7_ (n:Nat){rnd:Option Nat}(x0 x1:W8)(x2 x3 x4 x5 x6 x7 x8:Int)(x9:NL)(x10 x11 x12 x13 x14 x15 x16:Int)(x17:NL)(x18 st:Int)(r:(Unit) ⊕ (Unit))(h:qfk_ n x0 x1 x2 x3 x4 x5 x6 x7 x8 x9 x10 x11 x12 x13 x14 x15 x16 x17 x18 st=some r):qqo_ rnd x0 x1 x2 x3 x4 x5 x6 x7 x8 x9 x10 x11 x12 x13 x14 x15 x16 x17 x18 st r:=
 CG.iter (b:=qp_ P 11 [false,false,true,true,true,false,false,true,false,false,true,false,true,true]) (by kernel_rfl) (body:=qb7_ n x0 x1 x2 x3 x4 x5 x6 x7 x8 x9 x10 x11 x12 x13 x14 x15 x16 x17 x18) (S:=qfj_ x0 x1 x2 x3 x4 x5 x6 x7 x8 x9 x10 x11 x12 x13 x14 x15 x16 x17 x18) (X:=qb6_ x0 x1 x2 x3 x4 x5 x6 x7 x8 x9 x10 x11 x12 x13 x14 x15 x16 x17 x18)
  (fun s s' h=>qj0_ n x0 x1 x2 x3 x4 x5 x6 x7 x8 x9 x10 x11 x12 x13 x14 x15 x16 x17 x18 s (.inl s') h)
  (fun s r h=>qj0_ n x0 x1 x2 x3 x4 x5 x6 x7 x8 x9 x10 x11 x12 x13 x14 x15 x16 x17 x18 s (.inr r) h)
  (fun r=>by intro hx; rcases r with _ | _<;>cases hx) h
def qfl_ (x0 x1:W8)(st:Int):XSt:=match st with
 | x2=>(sT 102 [(0,(wlV x0)),(1,(wlV x1)),(5,(i6 x2))],[],⟨sB [],0,0⟩)
def qb8_ (x0 x1:W8)(r:(Unit) ⊕ (Unit)):Ex×XSt:=match r with
 | .inl _=>(.ret,(sT 102 [(4,(bO false))],[],⟨sB [],0,0⟩))
 | .inr _=>(.exit 0,(sT 102 [],[],⟨sB [],0,0⟩))
abbrev qqp_ (rd:Option Nat)(x0 x1:W8)(st:Int)(r:(Unit) ⊕ (Unit)):Prop:=CG P rd (fnN P 11) 0 (qp_ P 11 [false,true,false,true,true]) (qfl_ x0 x1 st) (qb8_ x0 x1 r)
def qb9_ (n:Nat)(x0 x1:W8)(st:Int):Option ((Int) ⊕ ((Unit) ⊕ (Unit))):=match st with
 | x2=>
  if x2<(((x0).l.length:Nat):Int) then
   if 0≤x2∧x2<(((x0).l.length:Nat):Int) then
    ((some (((x0).l).getD (x2).toNat (0,0,0,0,0,0,nl0,0)))).bind fun y3_=>
    if 0≤x2∧x2<(((x1).l.length:Nat):Int) then
     ((some (((x1).l).getD (x2).toNat (0,0,0,0,0,0,nl0,0)))).bind fun y5_=>
     if (y3_.1)=(y5_.1) then
      if (y3_.2.1)=(y5_.2.1) then
       if (y3_.2.2.1)=(y5_.2.2.1) then
        if (y3_.2.2.2.1)=(y5_.2.2.2.1) then
         if (y3_.2.2.2.2.1)=(y5_.2.2.2.2.1) then
          if (y3_.2.2.2.2.2.1)=(y5_.2.2.2.2.2.1) then
           if (y3_.2.2.2.2.2.2.2)=(y5_.2.2.2.2.2.2.2) then
            if ((((y3_.2.2.2.2.2.2.1)).l.length:Nat):Int)=((((y5_.2.2.2.2.2.2.1)).l.length:Nat):Int) then
             match qfk_ n x0 x1 x2 (y3_.1) (y3_.2.1) (y3_.2.2.1) (y3_.2.2.2.1) (y3_.2.2.2.2.1) (y3_.2.2.2.2.2.1) (y3_.2.2.2.2.2.2.1) (y3_.2.2.2.2.2.2.2) (y5_.1) (y5_.2.1) (y5_.2.2.1) (y5_.2.2.2.1) (y5_.2.2.2.2.1) (y5_.2.2.2.2.2.1) (y5_.2.2.2.2.2.2.1) (y5_.2.2.2.2.2.2.2) 0 with
             | none=>none
             | some (.inl _)=>
              some (.inr (.inl ()))
             | some (.inr _)=>
              some (.inl (w64 (x2+1)))
            else
             some (.inr (.inl ()))
           else
            some (.inr (.inl ()))
          else
           some (.inr (.inl ()))
         else
          some (.inr (.inl ()))
        else
         some (.inr (.inl ()))
       else
        some (.inr (.inl ()))
      else
       some (.inr (.inl ()))
     else
      some (.inr (.inl ()))
    else none
   else none
  else
   some (.inr (.inr ()))
def qfm_ (n:Nat)(x0 x1:W8)(st:Int):Option ((Unit) ⊕ (Unit)):=iterM (qb9_ n x0 x1) n st
theorem qj1_ (n:Nat){rnd:Option Nat}(x0 x1:W8)(x2:Int)(o:(Int) ⊕ ((Unit) ⊕ (Unit)))(h:qb9_ n x0 x1 x2=some o):CG P rnd (fnN P 11) 0 (qp_ P 11 [false,false,true,false,true,true]) (qfl_ x0 x1 x2) (Sum.elim (fun s=>(.normal,qfl_ x0 x1 s)) (fun r=>qb8_ x0 x1 r) o):=by
 unfold qb9_ at h
 dsimp only at h
 by_cases hy1:x2<(((x0).l.length:Nat):Int)
 ·rw[if_pos hy1] at h
  obtain⟨hy2,h⟩:=gd h
  obtain⟨y3_,hy3,h⟩:=oB h
  obtain⟨hy4,h⟩:=gd h
  obtain⟨y5_,hy5,h⟩:=oB h
  have k0:=fun {A L l} (k:PL A L l)=>zz 5 (xdT hy1) <|
   zz 12 (xk1 (x0).num (x0).off (x0).cap hy2) <|
   zz 13 (lk2 hy3 (qj_ hy2)) <|
   zz 16 (xk1 (x1).num (x1).off (x1).cap hy4) <|
   zz 17 (lk2 hy5 (qj_ hy4)) <|
   k
  by_cases hy6:(y3_.1)=(y5_.1)
  ·rw[if_pos hy6] at h
   have k5:=fun {A L l} (k:PL A L l)=>zz 28 (xnF hy6) <|
    k
   by_cases hy7:(y3_.2.1)=(y5_.2.1)
   ·rw[if_pos hy7] at h
    have k6:=fun {A L l} (k:PL A L l)=>zz 34 (xnF hy7) <|
     k
    by_cases hy8:(y3_.2.2.1)=(y5_.2.2.1)
    ·rw[if_pos hy8] at h
     have k7:=fun {A L l} (k:PL A L l)=>zz 41 (xnF hy8) <|
      k
     by_cases hy9:(y3_.2.2.2.1)=(y5_.2.2.2.1)
     ·rw[if_pos hy9] at h
      have k8:=fun {A L l} (k:PL A L l)=>zz 48 (xnF hy9) <|
       k
      by_cases hy10:(y3_.2.2.2.2.1)=(y5_.2.2.2.2.1)
      ·rw[if_pos hy10] at h
       have k9:=fun {A L l} (k:PL A L l)=>zz 55 (xnF hy10) <|
        k
       by_cases hy11:(y3_.2.2.2.2.2.1)=(y5_.2.2.2.2.2.1)
       ·rw[if_pos hy11] at h
        have k10:=fun {A L l} (k:PL A L l)=>zz 62 (xnF hy11) <|
         k
        by_cases hy12:(y3_.2.2.2.2.2.2.2)=(y5_.2.2.2.2.2.2.2)
        ·rw[if_pos hy12] at h
         have k11:=fun {A L l} (k:PL A L l)=>zz 69 (xnF hy12) <|
          k
         by_cases hy13:((((y3_.2.2.2.2.2.2.1)).l.length:Nat):Int)=((((y5_.2.2.2.2.2.2.1)).l.length:Nat):Int)
         ·rw[if_pos hy13] at h
          have k12:=fun {A L l} (k:PL A L l)=>zz 78 (xnF hy13) <|
           k
          rcases hy14:qfk_ n x0 x1 x2 (y3_.1) (y3_.2.1) (y3_.2.2.1) (y3_.2.2.2.1) (y3_.2.2.2.2.1) (y3_.2.2.2.2.2.1) (y3_.2.2.2.2.2.2.1) (y3_.2.2.2.2.2.2.2) (y5_.1) (y5_.2.1) (y5_.2.2.1) (y5_.2.2.2.1) (y5_.2.2.2.2.1) (y5_.2.2.2.2.2.1) (y5_.2.2.2.2.2.2.1) (y5_.2.2.2.2.2.2.2) 0 with _ | (⟨⟩ | ⟨⟩)
          ·rw[hy14] at h; cases h
          ·rw[hy14] at h
           dsimp only at h
           obtain rfl:=oI h
           exact runC2 hm (kW [4] [] 0 0) (k0 <|
            k5 <|
            k6 <|
            k7 <|
            k8 <|
            k9 <|
            k10 <|
            k11 <|
            k12 <|
            ww (qh7_ n (rnd:=rnd) x0 x1 x2 (y3_.1) (y3_.2.1) (y3_.2.2.1) (y3_.2.2.2.1) (y3_.2.2.2.2.1) (y3_.2.2.2.2.2.1) (y3_.2.2.2.2.2.2.1) (y3_.2.2.2.2.2.2.2) (y5_.1) (y5_.2.1) (y5_.2.2.1) (y5_.2.2.2.1) (y5_.2.2.2.2.1) (y5_.2.2.2.2.2.1) (y5_.2.2.2.2.2.2.1) (y5_.2.2.2.2.2.2.2) 0 (.inl ()) hy14) <|
            ll 84 ⟨(kW [0,1,5,6,7,8] [(0,8,false),(1,9,false)] 2 0),(qb6_ x0 x1 x2 (y3_.1) (y3_.2.1) (y3_.2.2.1) (y3_.2.2.2.1) (y3_.2.2.2.2.1) (y3_.2.2.2.2.2.1) (y3_.2.2.2.2.2.2.1) (y3_.2.2.2.2.2.2.2) (y5_.1) (y5_.2.1) (y5_.2.2.1) (y5_.2.2.2.1) (y5_.2.2.2.2.1) (y5_.2.2.2.2.2.1) (y5_.2.2.2.2.2.2.1) (y5_.2.2.2.2.2.2.2) (.inl ())).1,(qb6_ x0 x1 x2 (y3_.1) (y3_.2.1) (y3_.2.2.1) (y3_.2.2.2.1) (y3_.2.2.2.2.1) (y3_.2.2.2.2.2.1) (y3_.2.2.2.2.2.2.1) (y3_.2.2.2.2.2.2.2) (y5_.1) (y5_.2.1) (y5_.2.2.1) (y5_.2.2.2.1) (y5_.2.2.2.2.1) (y5_.2.2.2.2.2.1) (y5_.2.2.2.2.2.2.1) (y5_.2.2.2.2.2.2.2) (.inl ())).2⟩ <|
            ee) (by kernel_rfl)
          ·rw[hy14] at h
           dsimp only at h
           obtain rfl:=oI h
           exact runC2 hm (kW [0,1,5] [] 0 0) (k0 <|
            k5 <|
            k6 <|
            k7 <|
            k8 <|
            k9 <|
            k10 <|
            k11 <|
            k12 <|
            ww (qh7_ n (rnd:=rnd) x0 x1 x2 (y3_.1) (y3_.2.1) (y3_.2.2.1) (y3_.2.2.2.1) (y3_.2.2.2.2.1) (y3_.2.2.2.2.2.1) (y3_.2.2.2.2.2.2.1) (y3_.2.2.2.2.2.2.2) (y5_.1) (y5_.2.1) (y5_.2.2.1) (y5_.2.2.2.1) (y5_.2.2.2.2.1) (y5_.2.2.2.2.2.1) (y5_.2.2.2.2.2.2.1) (y5_.2.2.2.2.2.2.2) 0 (.inr ()) hy14) <|
            ll 84 ⟨(kW [0,1,5,6,7,8] [(0,8,false),(1,9,false)] 2 0),(qb6_ x0 x1 x2 (y3_.1) (y3_.2.1) (y3_.2.2.1) (y3_.2.2.2.1) (y3_.2.2.2.2.1) (y3_.2.2.2.2.2.1) (y3_.2.2.2.2.2.2.1) (y3_.2.2.2.2.2.2.2) (y5_.1) (y5_.2.1) (y5_.2.2.1) (y5_.2.2.2.1) (y5_.2.2.2.2.1) (y5_.2.2.2.2.2.1) (y5_.2.2.2.2.2.2.1) (y5_.2.2.2.2.2.2.2) (.inr ())).1,(qb6_ x0 x1 x2 (y3_.1) (y3_.2.1) (y3_.2.2.1) (y3_.2.2.2.1) (y3_.2.2.2.2.1) (y3_.2.2.2.2.2.1) (y3_.2.2.2.2.2.2.1) (y3_.2.2.2.2.2.2.2) (y5_.1) (y5_.2.1) (y5_.2.2.1) (y5_.2.2.2.1) (y5_.2.2.2.2.1) (y5_.2.2.2.2.2.1) (y5_.2.2.2.2.2.2.1) (y5_.2.2.2.2.2.2.2) (.inr ())).2⟩ <|
            ee) (by kernel_rfl)
         ·rw[if_neg hy13] at h
          obtain rfl:=oI h
          exact runC2 hm (kW [4] [] 0 0) (k0 <|
           k5 <|
           k6 <|
           k7 <|
           k8 <|
           k9 <|
           k10 <|
           k11 <|
           zz 78 (xnT hy13) <|
           ee) (by kernel_rfl)
        ·rw[if_neg hy12] at h
         obtain rfl:=oI h
         exact runC2 hm (kW [4] [] 0 0) (k0 <|
          k5 <|
          k6 <|
          k7 <|
          k8 <|
          k9 <|
          k10 <|
          zz 69 (xnT hy12) <|
          ee) (by kernel_rfl)
       ·rw[if_neg hy11] at h
        obtain rfl:=oI h
        exact runC2 hm (kW [4] [] 0 0) (k0 <|
         k5 <|
         k6 <|
         k7 <|
         k8 <|
         k9 <|
         zz 62 (xnT hy11) <|
         ee) (by kernel_rfl)
      ·rw[if_neg hy10] at h
       obtain rfl:=oI h
       exact runC2 hm (kW [4] [] 0 0) (k0 <|
        k5 <|
        k6 <|
        k7 <|
        k8 <|
        zz 55 (xnT hy10) <|
        ee) (by kernel_rfl)
     ·rw[if_neg hy9] at h
      obtain rfl:=oI h
      exact runC2 hm (kW [4] [] 0 0) (k0 <|
       k5 <|
       k6 <|
       k7 <|
       zz 48 (xnT hy9) <|
       ee) (by kernel_rfl)
    ·rw[if_neg hy8] at h
     obtain rfl:=oI h
     exact runC2 hm (kW [4] [] 0 0) (k0 <|
      k5 <|
      k6 <|
      zz 41 (xnT hy8) <|
      ee) (by kernel_rfl)
   ·rw[if_neg hy7] at h
    obtain rfl:=oI h
    exact runC2 hm (kW [4] [] 0 0) (k0 <|
     k5 <|
     zz 34 (xnT hy7) <|
     ee) (by kernel_rfl)
  ·rw[if_neg hy6] at h
   obtain rfl:=oI h
   exact runC2 hm (kW [4] [] 0 0) (k0 <|
    zz 28 (xnT hy6) <|
    ee) (by kernel_rfl)
 ·rw[if_neg hy1] at h
  obtain rfl:=oI h
  exact runC2 hm (kW [] [] 0 0) (zz 5 (xdF hy1) <|
   ee) (by kernel_rfl)
theorem qh8_ (n:Nat){rnd:Option Nat}(x0 x1:W8)(st:Int)(r:(Unit) ⊕ (Unit))(h:qfm_ n x0 x1 st=some r):qqp_ rnd x0 x1 st r:=
 CG.iter (b:=qp_ P 11 [false,false,true,false,true,true]) (by kernel_rfl) (body:=qb9_ n x0 x1) (S:=qfl_ x0 x1) (X:=qb8_ x0 x1)
  (fun s s' h=>qj1_ n x0 x1 s (.inl s') h)
  (fun s r h=>qj1_ n x0 x1 s (.inr r) h)
  (fun r=>by intro hx; rcases r with _ | _<;>cases hx) h
def qbi_ (n:Nat)(a0 a1:W8):Option (Bool):=
 if (((a0).l.length:Nat):Int)=(((a1).l.length:Nat):Int) then
  match qfm_ n a0 a1 0 with
  | none=>none
  | some (.inl _)=>
   some false
  | some (.inr _)=>
   some true
 else
  some false
theorem qdc_ (n:Nat)(a0 a1:W8)(r:Bool)(h:qbi_ n a0 a1=some r):qsi_ a0 a1 r:=by
 unfold qbi_ at h
 by_cases hc1:(((a0).l.length:Nat):Int)=(((a1).l.length:Nat):Int)
 ·rw[if_pos hc1] at h
  have k0:=fun {A L l} (k:PL A L l)=>zz 8 (xnF hc1) <|
   k
  rcases hc2:qfm_ n a0 a1 0 with _ | (⟨⟩ | ⟨⟩)
  ·rw[hc2] at h; cases h
  ·rw[hc2] at h
   dsimp only at h
   obtain rfl:=oI h
   exact runF2 hm (kW [4] [] 0 0) (k0 <|
    ww (qh8_ n (rnd:=none) a0 a1 0 (.inl ()) hc2) <|
    ll 14 ⟨(kW [0,1,5] [] 0 0),(qb8_ a0 a1 (.inl ())).1,(qb8_ a0 a1 (.inl ())).2⟩ <|
    ee) (by kernel_rfl)
  ·rw[hc2] at h
   dsimp only at h
   obtain rfl:=oI h
   exact runF2 hm (kW [4] [] 0 0) (k0 <|
    ww (qh8_ n (rnd:=none) a0 a1 0 (.inr ()) hc2) <|
    ll 14 ⟨(kW [0,1,5] [] 0 0),(qb8_ a0 a1 (.inr ())).1,(qb8_ a0 a1 (.inr ())).2⟩ <|
    ee) (by kernel_rfl)
 ·rw[if_neg hc1] at h
  obtain rfl:=oI h
  exact runF2 hm (kW [4] [] 0 0) (zz 8 (xnT hc1) <|
   ee) (by kernel_rfl)

def qky_ (a0 a1:NL)(r:Bool):Value:=match r with
 | o0=>(bO o0)
def qkz_ (a0 a1:NL)(r:Bool):AH:=match r with
 | o0=>⟨sB [],0,0⟩
abbrev qrv_ (a0 a1:NL)(r:Bool):Prop:=Gv P (.func 12) [(nlV a0),(nlV a1)] ⟨sB [],0,0⟩ (qky_ a0 a1 r) (qkz_ a0 a1 r)
abbrev qrw_ (a0 a1:NL)(r:Bool)(ins outs:BL):CallA:=⟨0,ins,qky_ a0 a1 r,qkz_ a0 a1 r,outs⟩
def qen_ (x0 x1:NL)(st:Int):XSt:=match st with
 | x2=>(sT 26 [(0,(nlV x0)),(1,(nlV x1)),(5,(i6 x2))],[],⟨sB [],0,0⟩)
def qbv_ (x0 x1:NL)(r:(Unit) ⊕ (Unit)):Ex×XSt:=match r with
 | .inl _=>(.ret,(sT 26 [(4,(bO false))],[],⟨sB [],0,0⟩))
 | .inr _=>(.exit 0,(sT 26 [],[],⟨sB [],0,0⟩))
abbrev qps_ (rd:Option Nat)(x0 x1:NL)(st:Int)(r:(Unit) ⊕ (Unit)):Prop:=CG P rd (fnN P 12) 0 (qp_ P 12 [false,true,false,true,true]) (qen_ x0 x1 st) (qbv_ x0 x1 r)
def qbw_ (n:Nat)(x0 x1:NL)(st:Int):Option ((Int) ⊕ ((Unit) ⊕ (Unit))):=match st with
 | x2=>
  if x2<(((x0).l.length:Nat):Int) then
   if 0≤x2∧x2<(((x0).l.length:Nat):Int) then
    if (x2).toNat<((x0).l).length then
     ((some (((x0).l).getD (x2).toNat 0))).bind fun y4_=>
     if 0≤x2∧x2<(((x1).l.length:Nat):Int) then
      if (x2).toNat<((x1).l).length then
       ((some (((x1).l).getD (x2).toNat 0))).bind fun y7_=>
       if y4_=y7_ then
        some (.inl (w64 (x2+1)))
       else
        some (.inr (.inl ()))
      else none
     else none
    else none
   else none
  else
   some (.inr (.inr ()))
def qeo_ (n:Nat)(x0 x1:NL)(st:Int):Option ((Unit) ⊕ (Unit)):=iterM (qbw_ n x0 x1) n st
theorem qjl_ (n:Nat){rnd:Option Nat}(x0 x1:NL)(x2:Int)(o:(Int) ⊕ ((Unit) ⊕ (Unit)))(h:qbw_ n x0 x1 x2=some o):CG P rnd (fnN P 12) 0 (qp_ P 12 [false,false,true,false,true,true]) (qen_ x0 x1 x2) (Sum.elim (fun s=>(.normal,qen_ x0 x1 s)) (fun r=>qbv_ x0 x1 r) o):=by
 unfold qbw_ at h
 dsimp only at h
 by_cases hy1:x2<(((x0).l.length:Nat):Int)
 ·rw[if_pos hy1] at h
  obtain⟨hy2,h⟩:=gd h
  obtain⟨hy3,h⟩:=gd h
  obtain⟨y4_,hy4,h⟩:=oB h
  obtain⟨hy5,h⟩:=gd h
  obtain⟨hy6,h⟩:=gd h
  obtain⟨y7_,hy7,h⟩:=oB h
  have k0:=fun {A L l} (k:PL A L l)=>zz 5 (xdT hy1) <|
   zz 12 (xk8 (Nat.add (x0).num 64) (x0).off (x0).cap hy2) <|
   zz 13 (nk9 hy4 hy3) <|
   zz 16 (xk8 (Nat.add (x1).num 64) (x1).off (x1).cap hy5) <|
   zz 17 (nk9 hy7 hy6) <|
   k
  by_cases hy8:y4_=y7_
  ·rw[if_pos hy8] at h
   obtain rfl:=oI h
   exact runC2 hm (kW [0,1,5] [] 0 0) (k0 <|
    zz 18 (xnF hy8) <|
    ee) (by kernel_rfl)
  ·rw[if_neg hy8] at h
   obtain rfl:=oI h
   exact runC2 hm (kW [4] [] 0 0) (k0 <|
    zz 18 (xnT hy8) <|
    ee) (by kernel_rfl)
 ·rw[if_neg hy1] at h
  obtain rfl:=oI h
  exact runC2 hm (kW [] [] 0 0) (zz 5 (xdF hy1) <|
   ee) (by kernel_rfl)
theorem qhy_ (n:Nat){rnd:Option Nat}(x0 x1:NL)(st:Int)(r:(Unit) ⊕ (Unit))(h:qeo_ n x0 x1 st=some r):qps_ rnd x0 x1 st r:=
 CG.iter (b:=qp_ P 12 [false,false,true,false,true,true]) (by kernel_rfl) (body:=qbw_ n x0 x1) (S:=qen_ x0 x1) (X:=qbv_ x0 x1)
  (fun s s' h=>qjl_ n x0 x1 s (.inl s') h)
  (fun s r h=>qjl_ n x0 x1 s (.inr r) h)
  (fun r=>by intro hx; rcases r with _ | _<;>cases hx) h
def qd6_ (n:Nat)(a0 a1:NL):Option (Bool):=
 if (((a0).l.length:Nat):Int)=(((a1).l.length:Nat):Int) then
  match qeo_ n a0 a1 0 with
  | none=>none
  | some (.inl _)=>
   some false
  | some (.inr _)=>
   some true
 else
  some false
theorem qo5_ (n:Nat)(a0 a1:NL)(r:Bool)(h:qd6_ n a0 a1=some r):qrv_ a0 a1 r:=by
 unfold qd6_ at h
 by_cases hc1:(((a0).l.length:Nat):Int)=(((a1).l.length:Nat):Int)
 ·rw[if_pos hc1] at h
  have k0:=fun {A L l} (k:PL A L l)=>zz 8 (xnF hc1) <|
   k
  rcases hc2:qeo_ n a0 a1 0 with _ | (⟨⟩ | ⟨⟩)
  ·rw[hc2] at h; cases h
  ·rw[hc2] at h
   dsimp only at h
   obtain rfl:=oI h
   exact runF2 hm (kW [4] [] 0 0) (k0 <|
    ww (qhy_ n (rnd:=none) a0 a1 0 (.inl ()) hc2) <|
    ll 14 ⟨(kW [0,1,5] [] 0 0),(qbv_ a0 a1 (.inl ())).1,(qbv_ a0 a1 (.inl ())).2⟩ <|
    ee) (by kernel_rfl)
  ·rw[hc2] at h
   dsimp only at h
   obtain rfl:=oI h
   exact runF2 hm (kW [4] [] 0 0) (k0 <|
    ww (qhy_ n (rnd:=none) a0 a1 0 (.inr ()) hc2) <|
    ll 14 ⟨(kW [0,1,5] [] 0 0),(qbv_ a0 a1 (.inr ())).1,(qbv_ a0 a1 (.inr ())).2⟩ <|
    ee) (by kernel_rfl)
 ·rw[if_neg hc1] at h
  obtain rfl:=oI h
  exact runF2 hm (kW [4] [] 0 0) (zz 8 (xnT hc1) <|
   ee) (by kernel_rfl)

def qus_ (a0:W8)(a1:Int)(a2:W8)(r:Bool):Value:=match r with
 | o0=>(bO o0)
def qut_ (a0:W8)(a1:Int)(a2:W8)(r:Bool):AH:=match r with
 | o0=>⟨sB [],0,0⟩
abbrev q1l_ (a0:W8)(a1:Int)(a2:W8)(r:Bool):Prop:=Gv P (.func 13) [(wlV a0),(i6 a1),(wlV a2)] ⟨sB [],0,0⟩ (qus_ a0 a1 a2 r) (qut_ a0 a1 a2 r)
abbrev q1m_ (a0:W8)(a1:Int)(a2:W8)(r:Bool)(ins outs:BL):CallA:=⟨0,ins,qus_ a0 a1 a2 r,qut_ a0 a1 a2 r,outs⟩
def qjm_ (n:Nat)(a0:W8)(a1:Int)(a2:W8):Option (Bool):=
 (q7_ n a0).bind fun c1_=>
 if c1_=0 then
  (q7_ n a2).bind fun c3_=>
  if c3_=0 then
   (qfu_ n a0 a1 a2).bind fun c5_=>
   some c5_
  else
   some false
 else
  some false
theorem qwy_ (n:Nat)(a0:W8)(a1:Int)(a2:W8)(r:Bool)(h:qjm_ n a0 a1 a2=some r):q1l_ a0 a1 a2 r:=by
 unfold qjm_ at h
 obtain⟨c1_,hc1,h⟩:=oB h
 have k0:=fun {A L l} (k:PL A L l)=>yy 4 (.call (qft_ a0 c1_ [] [])) <|
  ww (qc8_ n a0 c1_ hc1) <|
  k
 by_cases hc2:c1_=0
 ·rw[if_pos hc2] at h
  obtain⟨c3_,hc3,h⟩:=oB h
  have k2:=fun {A L l} (k:PL A L l)=>zz 5 (xeT hc2) <|
   yy 8 (.call (qft_ a2 c3_ [] [])) <|
   ww (qc8_ n a2 c3_ hc3) <|
   k
  by_cases hc4:c3_=0
  ·rw[if_pos hc4] at h
   obtain⟨c5_,hc5,h⟩:=oB h
   obtain rfl:=oI h
   exact runF2 hm (kW [6] [] 0 0) (k0 <|
    k2 <|
    zz 9 (xeT hc4) <|
    yy 15 (.call (quj_ a0 a1 a2 c5_ [] [])) <|
    ww (qp2_ n a0 a1 a2 c5_ hc5) <|
    ee) (by kernel_rfl)
  ·rw[if_neg hc4] at h
   obtain rfl:=oI h
   exact runF2 hm (kW [6] [] 0 0) (k0 <|
    k2 <|
    zz 9 (xeF hc4) <|
    ee) (by kernel_rfl)
 ·rw[if_neg hc2] at h
  obtain rfl:=oI h
  exact runF2 hm (kW [6] [] 0 0) (k0 <|
   zz 5 (xeF hc2) <|
   ee) (by kernel_rfl)

def quu_ (a0:Int)(r:Unit):Value:=match r with
 | _=>(i6 a0)
def quv_ (a0:Int)(r:Unit):AH:=match r with
 | _=>⟨sB [],0,0⟩
abbrev q1n_ (a0:Int)(r:Unit):Prop:=Gv P (.func 60) [(i6 a0)] ⟨sB [],0,0⟩ (quu_ a0 r) (quv_ a0 r)
abbrev q1o_ (a0:Int)(r:Unit)(ins outs:BL):CallA:=⟨0,ins,quu_ a0 r,quv_ a0 r,outs⟩
def ql7_ (n:Nat)(a0:Int):Option (Unit):=
 some ()
theorem qwz_ (n:Nat)(a0:Int)(r:Unit)(h:ql7_ n a0=some r):q1n_ a0 r:=by
 unfold ql7_ at h
 obtain rfl:=oI h
 exact runF2 hm (kW [2] [] 0 0) (ee) (by kernel_rfl)

def qo6_ (a0:NL):List Value:=[(nlV a0),(Value.func (.func 60) #[] #[])]
def qo7_ (a0:NL):AH:=⟨sB [],0,0⟩
def qo8_ (a0 r:NL):Value:=match r with
 | o0=>(nlV o0)
def qj8_ (a0 r:NL):AH:=match r with
 | o0=>⟨sB [],0,0⟩
abbrev qvn_ (a0 r:NL):Prop:=Gv P (.func 61) (qo6_ a0) (qo7_ a0) (qo8_ a0 r) (qj8_ a0 r)
abbrev qvo_ (a0 r:NL)(ins outs:BL):CallA:=⟨0,ins,qo8_ a0 r,qj8_ a0 r,outs⟩
def qgn_ (x1:Nat)(x2:NL)(x3:Int)(st:List Int×Int):XSt:=match st with
 | (x0,x4)=>(sT 29 [(1,(Value.func (.func 60) #[] #[])),(5,(sN 0 0 x1 x1)),(14,(nlV x2)),(15,(i6 x3)),(16,(i6 x4))],[],⟨sB [(0,(cB (iv x0) 3))],1,0⟩)
def qe5_ (x1:Nat)(x2:NL)(x3:Int)(r:List Int):Ex×XSt:=match r with
 | z0=>(.exit 0,(sT 29 [(5,(sN 0 0 x1 x1))],[],⟨sB [(0,(cB (iv z0) 3))],1,0⟩))
abbrev qtt_ (rnd:Option Nat)(x1:Nat)(x2:NL)(x3:Int)(st:List Int×Int)(c:Ex×XSt):Prop:=CG P rnd (fnN P 61) 0 (qp_ P 61 [false,false,true,false,true,true,true]) (qgn_ x1 x2 x3 st) c
abbrev qtu_ (rd:Option Nat)(x1:Nat)(x2:NL)(x3:Int)(st:List Int×Int)(r:List Int):Prop:=CG P rd (fnN P 61) 0 (qp_ P 61 [false,true,false,true,true,true]) (qgn_ x1 x2 x3 st) (qe5_ x1 x2 x3 r)
def qcz_ (n x1:Nat)(x2:NL)(x3:Int)(st:List Int×Int):Option ((List Int×Int) ⊕ (List Int)):=match st with
 | (x0,x4)=>
  if x4<x3 then
   if 0≤x4∧x4<(((x2).l.length:Nat):Int) then
    if (x4).toNat<((x2).l).length then
     ((some (((x2).l).getD (x4).toNat 0))).bind fun y4_=>
     (ql7_ n y4_).bind fun _=>
     if 0≤x4∧x4<((x1:Nat):Int) then
      if (x4).toNat<(x0).length then
       some (.inl (((x0).set (x4).toNat y4_),(w64 (x4+1))))
      else none
     else none
    else none
   else none
  else
   some (.inr x0)
def qio_ (n x1:Nat)(x2:NL)(x3:Int)(st:List Int×Int):Option (List Int):=iterM (qcz_ n x1 x2 x3) n st
theorem qmz_ (n:Nat){rnd:Option Nat}(x1:Nat)(x2:NL)(x3:Int)(st:List Int×Int)(o:(List Int×Int) ⊕ (List Int))(h:qcz_ n x1 x2 x3 st=some o):qtt_ rnd x1 x2 x3 st (Sum.elim (fun s=>(.normal,qgn_ x1 x2 x3 s)) (fun r=>qe5_ x1 x2 x3 r) o):=by
 obtain⟨x0,x4⟩:=st
 unfold qcz_ at h
 dsimp only at h
 by_cases hy1:x4<x3
 ·rw[if_pos hy1] at h
  obtain⟨hy2,h⟩:=gd h
  obtain⟨hy3,h⟩:=gd h
  obtain⟨y4_,hy4,h⟩:=oB h
  obtain⟨_,hy5,h⟩:=oB h
  obtain⟨hy6,h⟩:=gd h
  obtain⟨hy7,h⟩:=gd h
  obtain rfl:=oI h
  exact runC2 hm (kW [1,5,14,15,16] [(0,0,true)] 1 0) (zz 1 (xdT hy1) <|
   zz 8 (xk8 (Nat.add (x2).num 64) (x2).off (x2).cap hy2) <|
   zz 9 (nk9 hy4 hy3) <|
   yy 16 (.call (q1o_ y4_ () [] [])) <|
   ww (qwz_ n y4_ () hy5) <|
   zz 17 (xk13 0 x1 hy6) <|
   z2 18 (stI (y4_) hy7) <|
   ww (qco_ ((x0).set (x4).toNat y4_) 3) <|
   ee) (by kernel_rfl)
 ·rw[if_neg hy1] at h
  obtain rfl:=oI h
  exact runC2 hm (kW [5] [(0,0,true)] 1 0) (zz 1 (xdF hy1) <|
   ww (qco_ x0 3) <|
   ee) (by kernel_rfl)
theorem qqq_ (n:Nat){rnd:Option Nat}(x1:Nat)(x2:NL)(x3:Int)(st:List Int×Int)(r:List Int)(h:qio_ n x1 x2 x3 st=some r):qtu_ rnd x1 x2 x3 st r:=
 CG.iter (b:=qp_ P 61 [false,false,true,false,true,true,true]) (by kernel_rfl) (body:=qcz_ n x1 x2 x3) (S:=qgn_ x1 x2 x3) (X:=qe5_ x1 x2 x3)
  (fun s s' h=>qmz_ n x1 x2 x3 s (.inl s') h)
  (fun s r h=>qmz_ n x1 x2 x3 s (.inr r) h)
  (fun r=>by intro hx; cases hx) h
def qew_ (n:Nat)(a0:NL):Option (NL):=
 if (((a0).l.length:Nat):Int)=0 then
  some nl0
 else
  if 0≤(((a0).l.length:Nat):Int) then
   if ((((a0).l.length:Nat):Int)).toNat*8≤140737488355328 then
    (qio_ n (((((a0).l.length:Nat):Int)).toNat) a0 (((a0).l.length:Nat):Int) ((List.replicate ((((a0).l.length:Nat):Int)).toNat (0:Int)),0)).bind fun c4_=>
    if (((((a0).l.length:Nat):Int)).toNat)=c4_.length then
     if hc6:c4_.length≤140737488355328 then
      some (frzL c4_ hc6)
     else none
    else none
   else none
  else none
theorem qsj_ (n:Nat)(a0 r:NL)(h:qew_ n a0=some r):qvn_ a0 r:=by
 unfold qew_ at h
 by_cases hc1:(((a0).l.length:Nat):Int)=0
 ·rw[if_pos hc1] at h
  obtain rfl:=oI h
  exact runF2 hm ⟨[4],[],0,0,[],true,[],[],[4]⟩ (zz 6 (xeT hc1) <|
   ee) (by kernel_rfl)
 ·rw[if_neg hc1] at h
  obtain⟨hc2,h⟩:=gd h
  obtain⟨hc3,h⟩:=gd h
  obtain⟨c4_,hc4,h⟩:=oB h
  obtain⟨hc5,h⟩:=gd h
  obtain⟨hc6,h⟩:=gdD h
  obtain rfl:=oI h
  have k0_:Gv P (.func 61) (qo6_ a0) (qo7_ a0) (Value.slice (some ⟨Nat.add (2*cod c4_+1) 64,0,some 1⟩) (((((a0).l.length:Nat):Int)).toNat) (Nat.add big (((((a0).l.length:Nat):Int)).toNat))) (qj8_ a0 (frzL c4_ hc6)):=runF2 hm ⟨[4],[],0,0,[(0,Nat.add (2*cod c4_+1) 64)],true,[],[],[]⟩ (zz 6 (xeF hc1) <|
  yy 11 (.mk ((((a0).l.length:Nat):Int)).toNat (iv (List.replicate ((((a0).l.length:Nat):Int)).toNat (0:Int)))) <|
  ww (p:=natOf (i6 (((a0).l.length:Nat):Int))=some ((((a0).l.length:Nat):Int)).toNat) (qeu_ hc2) <|
  ww (p:=natOf (i6 (((a0).l.length:Nat):Int))=some ((((a0).l.length:Nat):Int)).toNat) (qeu_ hc2) <|
  ww (p:=fits ((((a0).l.length:Nat):Int)).toNat 8=true) (fits_ok hc3 (by omega)) <|
  ww (p:=isZ8 [(i6 (0:Int))]=false) (rfl) <|
  ww (p:=reps [(i6 (0:Int))] ((((a0).l.length:Nat):Int)).toNat=(iv (List.replicate ((((a0).l.length:Nat):Int)).toNat (0:Int)))) (qz5_ _) <|
  ww (qqq_ n (rnd:=none) (((((a0).l.length:Nat):Int)).toNat) a0 (((a0).l.length:Nat):Int) ((List.replicate ((((a0).l.length:Nat):Int)).toNat (0:Int)),0) c4_ hc4) <|
  ww (qco_ (List.replicate ((((a0).l.length:Nat):Int)).toNat (0:Int)) 3) <|
  ll 19 ⟨(kW [1,5,14,15,16] [(0,0,true)] 1 0),(qe5_ (((((a0).l.length:Nat):Int)).toNat) a0 (((a0).l.length:Nat):Int) c4_).1,(qe5_ (((((a0).l.length:Nat):Int)).toNat) a0 (((a0).l.length:Nat):Int) c4_).2⟩ <|
  ww (qon_ ql_ q2_ c4_) <|
  ee) (by kernel_rfl)
  have k1_:=gvLen (fn:=fun m_=>(Value.slice (some ⟨Nat.add (2*cod c4_+1) 64,0,some 1⟩) m_ (Nat.add big m_))) hc5 k0_
  exact k1_

def qwf_ (a0 a1 a2 a3 a4 a5:Int)(a6:NL)(a7:Int)(r:NL):Value:=match r with
 | o0=>(Value.agg #[(i6 a0),(i6 a1),(i6 a2),(i6 a3),(i6 a4),(i6 a5),(nlV o0),(Value.int .u64 a7)])
def qwg_ (a0 a1 a2 a3 a4 a5:Int)(a6:NL)(a7:Int)(r:NL):AH:=match r with
 | o0=>⟨sB [(0,(cB [(i6 a0),(i6 a1),(i6 a2),(i6 a3),(i6 a4),(i6 a5),(nlV o0),(Value.int .u64 a7)] 46))],1,0⟩
abbrev G_treemovedq3 (a0 a1 a2 a3 a4 a5:Int)(a6:NL)(a7:Int)(r:NL):Prop:=Gv P (.func 49) [(Value.agg #[(i6 a0),(i6 a1),(i6 a2),(i6 a3),(i6 a4),(i6 a5),(nlV a6),(Value.int .u64 a7)]),(Value.func (.func 60) #[] #[])] ⟨sB [],0,0⟩ (qwf_ a0 a1 a2 a3 a4 a5 a6 a7 r) (qwg_ a0 a1 a2 a3 a4 a5 a6 a7 r)
abbrev C_treemovedq3 (a0 a1 a2 a3 a4 a5:Int)(a6:NL)(a7:Int)(r:NL)(ins outs:BL):CallA:=⟨0,ins,qwf_ a0 a1 a2 a3 a4 a5 a6 a7 r,qwg_ a0 a1 a2 a3 a4 a5 a6 a7 r,outs⟩
def qnx_ (n:Nat)(a0 a1 a2 a3 a4 a5:Int)(a6:NL)(a7:Int):Option (NL):=
 (qew_ n a6).bind fun c1_=>
 some c1_
theorem qy0_ (n:Nat)(a0 a1 a2 a3 a4 a5:Int)(a6:NL)(a7:Int)(r:NL)(h:qnx_ n a0 a1 a2 a3 a4 a5 a6 a7=some r):G_treemovedq3 a0 a1 a2 a3 a4 a5 a6 a7 r:=by
 unfold qnx_ at h
 obtain⟨c1_,hc1,h⟩:=oB h
 obtain rfl:=oI h
 exact runF2 hm (kW [4] [(0,1,false)] 1 0) (yy 7 (.call (qvo_ a6 c1_ [] [])) <|
  ww (qsj_ n a6 c1_ hc1) <|
  ee) (by kernel_rfl)

def qwh_ (a0 a1 a2 a3 a4 a5:Int)(a6:NL)(a7:Int)(r:NL):Value:=match r with
 | o0=>(Value.agg #[(i6 a0),(i6 a1),(i6 a2),(i6 a3),(i6 a4),(i6 a5),(nlV o0),(Value.int .u64 a7)])
def qwi_ (a0 a1 a2 a3 a4 a5:Int)(a6:NL)(a7:Int)(r:NL):AH:=match r with
 | o0=>⟨sB [(0,(cB [(i6 a0),(i6 a1),(i6 a2),(i6 a3),(i6 a4),(i6 a5),(nlV o0),(Value.int .u64 a7)] 46))],1,0⟩
abbrev G_treeCopy1q1 (a0 a1 a2 a3 a4 a5:Int)(a6:NL)(a7:Int)(r:NL):Prop:=Gv P (.func 59) [(Value.agg #[(i6 a0),(i6 a1),(i6 a2),(i6 a3),(i6 a4),(i6 a5),(nlV a6),(Value.int .u64 a7)])] ⟨sB [],0,0⟩ (qwh_ a0 a1 a2 a3 a4 a5 a6 a7 r) (qwi_ a0 a1 a2 a3 a4 a5 a6 a7 r)
abbrev C_treeCopy1q1 (a0 a1 a2 a3 a4 a5:Int)(a6:NL)(a7:Int)(r:NL)(ins outs:BL):CallA:=⟨0,ins,qwh_ a0 a1 a2 a3 a4 a5 a6 a7 r,qwi_ a0 a1 a2 a3 a4 a5 a6 a7 r,outs⟩
def qny_ (n:Nat)(a0 a1 a2 a3 a4 a5:Int)(a6:NL)(a7:Int):Option (NL):=
 (qnx_ n a0 a1 a2 a3 a4 a5 a6 a7).bind fun c1_=>
 some c1_
theorem qy1_ (n:Nat)(a0 a1 a2 a3 a4 a5:Int)(a6:NL)(a7:Int)(r:NL)(h:qny_ n a0 a1 a2 a3 a4 a5 a6 a7=some r):G_treeCopy1q1 a0 a1 a2 a3 a4 a5 a6 a7 r:=by
 unfold qny_ at h
 obtain⟨c1_,hc1,h⟩:=oB h
 obtain rfl:=oI h
 exact runF2 hm (kW [2] [(0,1,false)] 1 0) (yy 5 (.call (C_treemovedq3 a0 a1 a2 a3 a4 a5 a6 a7 c1_ [] [(2,0,false)])) <|
  ww (qy0_ n a0 a1 a2 a3 a4 a5 a6 a7 c1_ hc1) <|
  ee) (by kernel_rfl)

def qnz_ (a0:W8)(r:(Unit) ⊕ (List R8)):Value:=match r with
 | .inl _=>(Value.slice none 0 0)
 | .inr o0=>(sN 0 0 (((((a0).l.length:Nat):Int)).toNat) (((((a0).l.length:Nat):Int)).toNat))
def qn0_ (a0:W8)(r:(Unit) ⊕ (List R8)):AH:=match r with
 | .inl _=>⟨sB [],0,0⟩
 | .inr o0=>⟨sB [(0,(cB (rows rw_iiiiiiLu o0) 46))],1,0⟩
abbrev quw_ (a0:W8)(r:(Unit) ⊕ (List R8)):Prop:=Gv P (.func 58) [(wlV a0),(Value.func (.func 59) #[] #[])] ⟨sB [],0,0⟩ (qnz_ a0 r) (qn0_ a0 r)
abbrev qn1_ (a0:W8)(r:(Unit) ⊕ (List R8))(ins outs:BL):CallA:=⟨0,ins,qnz_ a0 r,qn0_ a0 r,outs⟩
def qf7_ (x1:Nat)(x2:W8)(x3:Int)(st:List R8×Int):XSt:=match st with
 | (x0,x4)=>(sT 29 [(1,(Value.func (.func 59) #[] #[])),(5,(sN 0 0 x1 x1)),(14,(wlV x2)),(15,(i6 x3)),(16,(i6 x4))],[],⟨sB [(0,(cB (rows rw_iiiiiiLu x0) 46))],1,0⟩)
def qeg_ (x1:Nat)(x2:W8)(x3:Int)(r:List R8):Ex×XSt:=match r with
 | z0=>(.exit 0,(sT 29 [(5,(sN 0 0 x1 x1))],[],⟨sB [(0,(cB (rows rw_iiiiiiLu z0) 46))],1,0⟩))
abbrev qsk_ (rnd:Option Nat)(x1:Nat)(x2:W8)(x3:Int)(st:List R8×Int)(c:Ex×XSt):Prop:=CG P rnd (fnN P 58) 0 (qp_ P 58 [false,false,true,false,true,true,true]) (qf7_ x1 x2 x3 st) c
abbrev qsl_ (rd:Option Nat)(x1:Nat)(x2:W8)(x3:Int)(st:List R8×Int)(r:List R8):Prop:=CG P rd (fnN P 58) 0 (qp_ P 58 [false,true,false,true,true,true]) (qf7_ x1 x2 x3 st) (qeg_ x1 x2 x3 r)
def qcq_ (n x1:Nat)(x2:W8)(x3:Int)(st:List R8×Int):Option ((List R8×Int) ⊕ (List R8)):=match st with
 | (x0,x4)=>
  if x4<x3 then
   if 0≤x4∧x4<(((x2).l.length:Nat):Int) then
    ((some (((x2).l).getD (x4).toNat (0,0,0,0,0,0,nl0,0)))).bind fun y3_=>
    (qny_ n (y3_.1) (y3_.2.1) (y3_.2.2.1) (y3_.2.2.2.1) (y3_.2.2.2.2.1) (y3_.2.2.2.2.2.1) (y3_.2.2.2.2.2.2.1) (y3_.2.2.2.2.2.2.2)).bind fun y4_=>
    if 0≤x4∧x4<((x1:Nat):Int) then
     if (x4).toNat<(x0).length then
      some (.inl (((x0).set (x4).toNat ((y3_.1),(y3_.2.1),(y3_.2.2.1),(y3_.2.2.2.1),(y3_.2.2.2.2.1),(y3_.2.2.2.2.2.1),y4_,(y3_.2.2.2.2.2.2.2))),(w64 (x4+1))))
     else none
    else none
   else none
  else
   some (.inr x0)
def qh0_ (n x1:Nat)(x2:W8)(x3:Int)(st:List R8×Int):Option (List R8):=iterM (qcq_ n x1 x2 x3) n st
theorem qlt_ (n:Nat){rnd:Option Nat}(x1:Nat)(x2:W8)(x3:Int)(st:List R8×Int)(o:(List R8×Int) ⊕ (List R8))(h:qcq_ n x1 x2 x3 st=some o):qsk_ rnd x1 x2 x3 st (Sum.elim (fun s=>(.normal,qf7_ x1 x2 x3 s)) (fun r=>qeg_ x1 x2 x3 r) o):=by
 obtain⟨x0,x4⟩:=st
 unfold qcq_ at h
 dsimp only at h
 by_cases hy1:x4<x3
 ·rw[if_pos hy1] at h
  obtain⟨hy2,h⟩:=gd h
  obtain⟨y3_,hy3,h⟩:=oB h
  obtain⟨y4_,hy4,h⟩:=oB h
  obtain⟨hy5,h⟩:=gd h
  obtain⟨hy6,h⟩:=gd h
  obtain rfl:=oI h
  exact runC2 hm (kW [1,5,14,15,16] [(0,0,true)] 1 0) (zz 1 (xdT hy1) <|
   zz 8 (xk1 (x2).num (x2).off (x2).cap hy2) <|
   zz 9 (lk2 hy3 (qj_ hy2)) <|
   yy 17 (.call (C_treeCopy1q1 (y3_.1) (y3_.2.1) (y3_.2.2.1) (y3_.2.2.2.1) (y3_.2.2.2.2.1) (y3_.2.2.2.2.2.1) (y3_.2.2.2.2.2.2.1) (y3_.2.2.2.2.2.2.2) y4_ [] [(2,0,false)])) <|
   ww (qy1_ n (y3_.1) (y3_.2.1) (y3_.2.2.1) (y3_.2.2.2.1) (y3_.2.2.2.2.1) (y3_.2.2.2.2.2.1) (y3_.2.2.2.2.2.2.1) (y3_.2.2.2.2.2.2.2) y4_ hy4) <|
   zz 18 (xk3 0 x1 hy5) <|
   z2 19 (ste (k:=8) (rows_st rwf_iiiiiiLu (0,0,0,0,0,0,nl0,0) (i:=(x4).toNat) (j:=0) (l:=[(i6 (y3_.1)),(i6 (y3_.2.1)),(i6 (y3_.2.2.1)),(i6 (y3_.2.2.2.1)),(i6 (y3_.2.2.2.2.1)),(i6 (y3_.2.2.2.2.2.1)),(nlV y4_),(Value.int .u64 (y3_.2.2.2.2.2.2.2))]) ((y3_.1),(y3_.2.1),(y3_.2.2.1),(y3_.2.2.2.1),(y3_.2.2.2.2.1),(y3_.2.2.2.2.2.1),y4_,(y3_.2.2.2.2.2.2.2)) ((x4).toNat*8) rfl (hy6) (Nat.le_of_ble_eq_true rfl) rfl)) <|
   ww (qb_ rwf_iiiiiiLu ((x0).set (x4).toNat ((y3_.1),(y3_.2.1),(y3_.2.2.1),(y3_.2.2.2.1),(y3_.2.2.2.2.1),(y3_.2.2.2.2.2.1),y4_,(y3_.2.2.2.2.2.2.2))) 46) <|
   ee) (by kernel_rfl)
 ·rw[if_neg hy1] at h
  obtain rfl:=oI h
  exact runC2 hm (kW [5] [(0,0,true)] 1 0) (zz 1 (xdF hy1) <|
   ww (qb_ rwf_iiiiiiLu x0 46) <|
   ee) (by kernel_rfl)
theorem qpt_ (n:Nat){rnd:Option Nat}(x1:Nat)(x2:W8)(x3:Int)(st:List R8×Int)(r:List R8)(h:qh0_ n x1 x2 x3 st=some r):qsl_ rnd x1 x2 x3 st r:=
 CG.iter (b:=qp_ P 58 [false,false,true,false,true,true,true]) (by kernel_rfl) (body:=qcq_ n x1 x2 x3) (S:=qf7_ x1 x2 x3) (X:=qeg_ x1 x2 x3)
  (fun s s' h=>qlt_ n x1 x2 x3 s (.inl s') h)
  (fun s r h=>qlt_ n x1 x2 x3 s (.inr r) h)
  (fun r=>by intro hx; cases hx) h
def qf0_ (n:Nat)(a0:W8):Option ((Unit) ⊕ (List R8)):=
 if (((a0).l.length:Nat):Int)=0 then
  some (.inl ())
 else
  if 0≤(((a0).l.length:Nat):Int) then
   if ((((a0).l.length:Nat):Int)).toNat*80≤140737488355328 then
    (qh0_ n (((((a0).l.length:Nat):Int)).toNat) a0 (((a0).l.length:Nat):Int) ((List.replicate ((((a0).l.length:Nat):Int)).toNat (0,0,0,0,0,0,nl0,0)),0)).bind fun c4_=>
    some (.inr c4_)
   else none
  else none
theorem qk0_ (n:Nat)(a0:W8)(r:(Unit) ⊕ (List R8))(h:qf0_ n a0=some r):quw_ a0 r:=by
 unfold qf0_ at h
 by_cases hc1:(((a0).l.length:Nat):Int)=0
 ·rw[if_pos hc1] at h
  obtain rfl:=oI h
  exact runF2 hm (kW [4] [] 0 0) (zz 6 (xeT hc1) <|
   ee) (by kernel_rfl)
 ·rw[if_neg hc1] at h
  obtain⟨hc2,h⟩:=gd h
  obtain⟨hc3,h⟩:=gd h
  obtain⟨c4_,hc4,h⟩:=oB h
  obtain rfl:=oI h
  exact runF2 hm (kW [4] [(0,0,true)] 1 0) (zz 6 (xeF hc1) <|
   yy 11 (.mk ((((a0).l.length:Nat):Int)).toNat (rows rw_iiiiiiLu (List.replicate ((((a0).l.length:Nat):Int)).toNat (0,0,0,0,0,0,nl0,0)))) <|
   ww (p:=natOf (i6 (((a0).l.length:Nat):Int))=some ((((a0).l.length:Nat):Int)).toNat) (qeu_ hc2) <|
   ww (p:=natOf (i6 (((a0).l.length:Nat):Int))=some ((((a0).l.length:Nat):Int)).toNat) (qeu_ hc2) <|
   ww (p:=fits ((((a0).l.length:Nat):Int)).toNat 80=true) (fits_ok hc3 (by omega)) <|
   ww (p:=isZ8 [(i6 (0:Int)),(i6 (0:Int)),(i6 (0:Int)),(i6 (0:Int)),(i6 (0:Int)),(i6 (0:Int)),(nlV nl0),(Value.int .u64 (0:Int))]=false) (rfl) <|
   ww (p:=reps [(i6 (0:Int)),(i6 (0:Int)),(i6 (0:Int)),(i6 (0:Int)),(i6 (0:Int)),(i6 (0:Int)),(nlV nl0),(Value.int .u64 (0:Int))] ((((a0).l.length:Nat):Int)).toNat=(rows rw_iiiiiiLu (List.replicate ((((a0).l.length:Nat):Int)).toNat (0,0,0,0,0,0,nl0,0)))) (reps_rows rw_iiiiiiLu (0,0,0,0,0,0,nl0,0) _ rfl _) <|
   ww (qpt_ n (rnd:=none) (((((a0).l.length:Nat):Int)).toNat) a0 (((a0).l.length:Nat):Int) ((List.replicate ((((a0).l.length:Nat):Int)).toNat (0,0,0,0,0,0,nl0,0)),0) c4_ hc4) <|
   ww (qb_ rwf_iiiiiiLu (List.replicate ((((a0).l.length:Nat):Int)).toNat (0,0,0,0,0,0,nl0,0)) 46) <|
   ll 19 ⟨(kW [1,5,14,15,16] [(0,0,true)] 1 0),(qeg_ (((((a0).l.length:Nat):Int)).toNat) a0 (((a0).l.length:Nat):Int) c4_).1,(qeg_ (((((a0).l.length:Nat):Int)).toNat) a0 (((a0).l.length:Nat):Int) c4_).2⟩ <|
   ww (qb_ rwf_iiiiiiLu c4_ 46) <|
   ee) (by kernel_rfl)

def qy2_ (a0:W8)(r:(Unit) ⊕ (List R8)):Value:=match r with
 | .inl _=>(Value.slice none 0 0)
 | .inr o0=>(sN 0 0 (((((a0).l.length:Nat):Int)).toNat) (((((a0).l.length:Nat):Int)).toNat))
def qy3_ (a0:W8)(r:(Unit) ⊕ (List R8)):AH:=match r with
 | .inl _=>⟨sB [],0,0⟩
 | .inr o0=>⟨sB [(0,(cB (rows rw_iiiiiiLu o0) 46))],1,0⟩
abbrev G_treeCopyq1 (a0:W8)(r:(Unit) ⊕ (List R8)):Prop:=Gv P (.func 41) [(wlV a0)] ⟨sB [],0,0⟩ (qy2_ a0 r) (qy3_ a0 r)
abbrev qpu_ (a0:W8)(r:(Unit) ⊕ (List R8))(ins outs:BL):CallA:=⟨0,ins,qy2_ a0 r,qy3_ a0 r,outs⟩
def qhj_ (n:Nat)(a0:W8):Option ((Unit) ⊕ (List R8)):=
 match qf0_ n a0 with
 | none=>none
 | some (.inl _)=>
  some (.inl ())
 | some (.inr c1_)=>
  some (.inr c1_)
theorem qkf_ (n:Nat)(a0:W8)(r:(Unit) ⊕ (List R8))(h:qhj_ n a0=some r):G_treeCopyq1 a0 r:=by
 unfold qhj_ at h
 rcases hc1:qf0_ n a0 with _ | (⟨⟩ | c1_)
 ·rw[hc1] at h; cases h
 ·rw[hc1] at h
  dsimp only at h
  obtain rfl:=oI h
  exact runF2 hm (kW [2] [] 0 0) (yy 4 (.call (qn1_ a0 (.inl ()) [] [])) <|
   ww (qk0_ n a0 (.inl ()) hc1) <|
   ee) (by kernel_rfl)
 ·rw[hc1] at h
  dsimp only at h
  obtain rfl:=oI h
  exact runF2 hm (kW [2] [(0,0,true)] 1 0) (yy 4 (.call (qn1_ a0 (.inr c1_) [] [(0,0,true)])) <|
   ww (qk0_ n a0 (.inr c1_) hc1) <|
   ww (qb_ rwf_iiiiiiLu c1_ 46) <|
   ww (qb_ rwf_iiiiiiLu c1_ 46) <|
   ee) (by kernel_rfl)

def qs4_ (a0:W8)(a1:Int):List Value:=[(wlV a0),(i6 a1)]
def qs5_ (a0:W8)(a1:Int):AH:=⟨sB [],0,0⟩
def qs6_ (a0:W8)(a1:Int)(r:W8):Value:=match r with
 | o0=>(wlV o0)
def qoc_ (a0:W8)(a1:Int)(r:W8):AH:=match r with
 | o0=>⟨sB [],0,0⟩
abbrev qzm_ (a0:W8)(a1:Int)(r:W8):Prop:=Gv P (.func 15) (qs4_ a0 a1) (qs5_ a0 a1) (qs6_ a0 a1 r) (qoc_ a0 a1 r)
abbrev qs7_ (a0:W8)(a1:Int)(r:W8)(ins outs:BL):CallA:=⟨0,ins,qs6_ a0 a1 r,qoc_ a0 a1 r,outs⟩
def qii_ (x0:Int)(x2:Nat)(x3:Int)(st:List R8×Int):XSt:=match st with
 | (x1,x4)=>(sT 30 [(1,(i6 x0)),(5,(slKQ x1 0 x2 0 x2)),(14,(i6 x3)),(15,(i6 x4))],[],⟨sB [(0,(nblkR rw_iiiiiiLu x1 46))],1,0⟩)
def qbx_ (x0:Int)(x2:Nat)(x3:Int)(r:List R8×Nat):Ex×XSt:=match r with
 | (z0,z1)=>(.exit 0,(sT 30 [(5,(slKQ z0 0 z1 0 z1))],[],⟨sB [(0,(nblkR rw_iiiiiiLu z0 46))],1,0⟩))
abbrev qw0_ (rnd:Option Nat)(x0:Int)(x2:Nat)(x3:Int)(st:List R8×Int)(c:Ex×XSt):Prop:=CG P rnd (fnN P 15) 0 (qp_ P 15 [false,false,true,false,true,true,true]) (qii_ x0 x2 x3 st) c
abbrev qw1_ (rd:Option Nat)(x0:Int)(x2:Nat)(x3:Int)(st:List R8×Int)(r:List R8×Nat):Prop:=CG P rd (fnN P 15) 0 (qp_ P 15 [false,true,false,true,true,true]) (qii_ x0 x2 x3 st) (qbx_ x0 x2 x3 r)
def qee_ (n:Nat)(x0:Int)(x2:Nat)(x3:Int)(st:List R8×Int):Option ((List R8×Int) ⊕ (List R8×Nat)):=match st with
 | (x1,x4)=>
  match x1 with
  | []=>
   if x4<x3 then
    none
   else
    some (.inr (([]:List R8),0))
  | x1a::x1t=>
   if x4<x3 then
    if 0≤x4∧x4<((x2:Nat):Int) then
     if (x4).toNat<((x1a::x1t)).length then
      ((some (((x1a::x1t)).getD (x4).toNat (0,0,0,0,0,0,nl0,0)))).bind fun y4_=>
      if 0≤x0 then
       ((some (qoo_ .u64 (y4_.2.2.2.2.2.2.2) (shlV .u64 (1:Int) x0)))).bind fun y6_=>
       some (.inl ((((x1a::x1t)).set (x4).toNat ((y4_.1),(y4_.2.1),(y4_.2.2.1),(y4_.2.2.2.1),(y4_.2.2.2.2.1),(y4_.2.2.2.2.2.1),(y4_.2.2.2.2.2.2.1),y6_)),(w64 (x4+1))))
      else none
     else none
    else none
   else
    some (.inr ((x1a::x1t),x2))
def qfq_ (n:Nat)(x0:Int)(x2:Nat)(x3:Int)(st:List R8×Int):Option (List R8×Nat):=iterM (qee_ n x0 x2 x3) n st
theorem qp8_ (n:Nat){rnd:Option Nat}(x0:Int)(x2:Nat)(x3:Int)(st:List R8×Int)(o:(List R8×Int) ⊕ (List R8×Nat))(h:qee_ n x0 x2 x3 st=some o):qw0_ rnd x0 x2 x3 st (Sum.elim (fun s=>(.normal,qii_ x0 x2 x3 s)) (fun r=>qbx_ x0 x2 x3 r) o):=by
 obtain⟨x1,x4⟩:=st
 unfold qee_ at h
 dsimp only at h
 cases x1 with
 | nil=>
  dsimp only at h
  by_cases hy1:x4<x3
  ·rw[if_pos hy1] at h
   cases h
  ·rw[if_neg hy1] at h
   obtain rfl:=oI h
   exact runC2 hm (kW [5] [] 1 0) (zz 1 (xdF hy1) <|
    ee) (by kernel_rfl)
 | cons x1a x1t=>
  dsimp only at h
  by_cases hy1:x4<x3
  ·rw[if_pos hy1] at h
   obtain⟨hy2,h⟩:=gd h
   obtain⟨hy3,h⟩:=gd h
   obtain⟨y4_,hy4,h⟩:=oB h
   obtain⟨hy5,h⟩:=gd h
   obtain⟨y6_,hy6,h⟩:=oB h
   obtain rfl:=oI h
   obtain⟨za,zt,hz⟩:∃ a t,(((x1a::x1t)).set (x4).toNat ((y4_.1),(y4_.2.1),(y4_.2.2.1),(y4_.2.2.2.1),(y4_.2.2.2.2.1),(y4_.2.2.2.2.2.1),(y4_.2.2.2.2.2.2.1),y6_))=a::t:=qmn_
   rw[hz]
   exact runC2 hm (kW [1,5,14,15] [(0,0,true)] 1 0) (zz 1 (xdT hy1) <|
    zz 11 (xk3 0 x2 hy2) <|
    zz 13 (ok20 hy4 (hy3)) <|
    yy 15 (.pur (Value.int .u64 (shlV .u64 (1:Int) x0))) <|
    ww (p:=opBin P .shl 41 (.const (Value.int .u64 (1:Int))) (.tmp 23) (Value.int .u64 (1:Int)) (i6 x0) Ax.h0=some ((Value.int .u64 (shlV .u64 (1:Int) x0)),Ax.h0)) (qj4_ hy5) <|
    zz 16 (xnmK (k:=.u64) hy6) <|
    zz 17 (xk3 0 x2 hy2) <|
    yy 19 (.sto (layT (rows rw_iiiiiiLu (za::zt)))) <|
    ww (p:=∃ old,rdT (layT (rows rw_iiiiiiLu (x1a::x1t))) 1 (Nat.add ((x4).toNat*8) 7)=some old) ((ste (k:=1) (qf9_ rwf_iiiiiiLu (0,0,0,0,0,0,nl0,0) (hr:=hy4) (i:=(x4).toNat) (j:=7) (l:=[(Value.int .u64 y6_)]) ((y4_.1),(y4_.2.1),(y4_.2.2.1),(y4_.2.2.2.1),(y4_.2.2.2.2.1),(y4_.2.2.2.2.2.1),(y4_.2.2.2.2.2.2.1),y6_) (Nat.add ((x4).toNat*8) 7) rfl (hy3) (Nat.le_of_ble_eq_true rfl) rfl)).p) <|
    ww (p:=layL [(Value.int .u64 y6_)] (Nat.add ((x4).toNat*8) 7) (layT (rows rw_iiiiiiLu (x1a::x1t)))=layT (rows rw_iiiiiiLu (za::zt))) (by rw[←hz]; exact (ste (k:=1) (qf9_ rwf_iiiiiiLu (0,0,0,0,0,0,nl0,0) (hr:=hy4) (i:=(x4).toNat) (j:=7) (l:=[(Value.int .u64 y6_)]) ((y4_.1),(y4_.2.1),(y4_.2.2.1),(y4_.2.2.2.1),(y4_.2.2.2.2.1),(y4_.2.2.2.2.2.1),(y4_.2.2.2.2.2.2.1),y6_) (Nat.add ((x4).toNat*8) 7) rfl (hy3) (Nat.le_of_ble_eq_true rfl) rfl)).q) <|
    ww (qb_ rwf_iiiiiiLu (za::zt) 46) <|
    ee) (by kernel_rfl)
  ·rw[if_neg hy1] at h
   obtain rfl:=oI h
   exact runC2 hm (kW [5] [(0,0,true)] 1 0) (zz 1 (xdF hy1) <|
    ww (qb_ rwf_iiiiiiLu (x1a::x1t) 46) <|
    ee) (by kernel_rfl)
theorem qgo_ (n:Nat){rnd:Option Nat}(x0:Int)(x2:Nat)(x3:Int)(st:List R8×Int)(r:List R8×Nat)(h:qfq_ n x0 x2 x3 st=some r):qw1_ rnd x0 x2 x3 st r:=
 CG.iter (b:=qp_ P 15 [false,false,true,false,true,true,true]) (by kernel_rfl) (body:=qee_ n x0 x2 x3) (S:=qii_ x0 x2 x3) (X:=qbx_ x0 x2 x3)
  (fun s s' h=>qp8_ n x0 x2 x3 s (.inl s') h)
  (fun s r h=>qp8_ n x0 x2 x3 s (.inr r) h)
  (fun r=>by intro hx; cases hx) h
def qgz_ (n:Nat)(a0:W8)(a1:Int):Option (W8):=
 match qhj_ n a0 with
 | none=>none
 | some (.inl _)=>
  (qcd_ n a1).bind fun c2_=>
  if c2_=true then
   (qfq_ n a1 0 0 (([]:List R8),0)).bind fun t=>match t with
   | (c4_0,c4_1)=>
    match c4_0 with
    | []=>
     some (wl0:W8)
    | c4_0a::c4_0t=>
     if c4_1=(c4_0a::c4_0t).length then
      if hc6:(c4_0a::c4_0t).length≤9223372036854775807 then
       some (frzR qc_ (c4_0a::c4_0t) hc6)
      else none
     else none
  else
   some (wl0:W8)
 | some (.inr c1_)=>
  match c1_ with
  | []=>
   none
  | c1_a::c1_t=>
   (qcd_ n a1).bind fun c2_=>
   if c2_=true then
    (qfq_ n a1 (((((a0).l.length:Nat):Int)).toNat) (((((((a0).l.length:Nat):Int)).toNat):Nat):Int) ((c1_a::c1_t),0)).bind fun t=>match t with
    | (c4_0,c4_1)=>
     match c4_0 with
     | []=>
      some (wl0:W8)
     | c4_0a::c4_0t=>
      if c4_1=(c4_0a::c4_0t).length then
       if hc6:(c4_0a::c4_0t).length≤9223372036854775807 then
        some (frzR qc_ (c4_0a::c4_0t) hc6)
       else none
      else none
   else
    if (((((a0).l.length:Nat):Int)).toNat)=(c1_a::c1_t).length then
     if hc5:(c1_a::c1_t).length≤9223372036854775807 then
      some (frzR qc_ (c1_a::c1_t) hc5)
     else none
    else none
theorem qo9_ (n:Nat)(a0:W8)(a1:Int)(r:W8)(h:qgz_ n a0 a1=some r):qzm_ a0 a1 r:=by
 unfold qgz_ at h
 rcases hc1:qhj_ n a0 with _ | (⟨⟩ | c1_)
 ·rw[hc1] at h; cases h
 ·rw[hc1] at h
  dsimp only at h
  obtain⟨c2_,hc2,h⟩:=oB h
  have k0:=fun {A L l} (k:PL A L l)=>yy 4 (.call (qpu_ a0 (.inl ()) [] [])) <|
   ww (qkf_ n a0 (.inl ()) hc1) <|
   yy 9 (.call (qez_ a1 c2_ [] [])) <|
   ww (qc9_ n a1 c2_ hc2) <|
   k
  by_cases hc3:c2_=true
  ·rw[if_pos hc3] at h
   obtain⟨⟨c4_0,c4_1⟩,hc4,h⟩:=oB h
   dsimp only at h
   have k4:=fun {A L l} (k:PL A L l)=>yy 10 (vf) <|
    ww (p:=(Value.bool (!c2_))=(Value.bool false)) (vBn hc3) <|
    k
   cases c4_0 with
   | nil=>
    dsimp only at h
    obtain rfl:=oI h
    exact runF2 hm ⟨[4],[],0,0,[],true,[],[],[4]⟩ (k0 <|
     k4 <|
     ww (qgo_ n (rnd:=none) a1 0 0 (([]:List R8),0) (([]:List R8),c4_1) hc4) <|
     ll 18 ⟨(kW [1,5,14,15] [] 1 0),(qbx_ a1 0 0 (([]:List R8),c4_1)).1,(qbx_ a1 0 0 (([]:List R8),c4_1)).2⟩ <|
     ee) (by kernel_rfl)
   | cons c4_0a c4_0t=>
    dsimp only at h
    obtain⟨hc5,h⟩:=gd h
    obtain⟨hc6,h⟩:=gdD h
    obtain rfl:=oI h
    subst hc5
    exact runF2 hm ⟨[4],[],0,0,[(0,Nat.add (2*codL (rows rw_iiiiiiLu (c4_0a::c4_0t))+1) 64)],true,[],[],[]⟩ (k0 <|
     k4 <|
     ww (qgo_ n (rnd:=none) a1 0 0 (([]:List R8),0) ((c4_0a::c4_0t),(((c4_0a::c4_0t)).length)) hc4) <|
     ll 18 ⟨(kW [1,5,14,15] [] 1 0),(qbx_ a1 0 0 ((c4_0a::c4_0t),(((c4_0a::c4_0t)).length))).1,(qbx_ a1 0 0 ((c4_0a::c4_0t),(((c4_0a::c4_0t)).length))).2⟩ <|
     ww (qf5_ ql_ q2_ qc_ (c4_0a::c4_0t)) <|
     ee) (by kernel_rfl)
  ·rw[if_neg hc3] at h
   obtain rfl:=oI h
   exact runF2 hm ⟨[4],[],0,0,[],true,[],[],[4]⟩ (k0 <|
    yy 10 (vt) <|
    ww (p:=(Value.bool (!c2_))=(Value.bool true)) (vBn (Bool.eq_false_iff.2 hc3)) <|
    ee) (by kernel_rfl)
 ·rw[hc1] at h
  dsimp only at h
  cases c1_ with
  | nil=>
   dsimp only at h
   cases h
  | cons c1_a c1_t=>
   dsimp only at h
   obtain⟨c2_,hc2,h⟩:=oB h
   have k0:=fun {A L l} (k:PL A L l)=>yy 4 (.call (qpu_ a0 (.inr (c1_a::c1_t)) [] [(0,0,true)])) <|
    ww (qkf_ n a0 (.inr (c1_a::c1_t)) hc1) <|
    ww (qb_ rwf_iiiiiiLu (c1_a::c1_t) 46) <|
    yy 9 (.call (qez_ a1 c2_ [] [])) <|
    ww (qc9_ n a1 c2_ hc2) <|
    k
   by_cases hc3:c2_=true
   ·rw[if_pos hc3] at h
    obtain⟨⟨c4_0,c4_1⟩,hc4,h⟩:=oB h
    dsimp only at h
    have k5:=fun {A L l} (k:PL A L l)=>yy 10 (vf) <|
     ww (p:=(Value.bool (!c2_))=(Value.bool false)) (vBn hc3) <|
     k
    cases c4_0 with
    | nil=>
     dsimp only at h
     obtain rfl:=oI h
     exact runF2 hm ⟨[4],[],0,0,[],true,[],[],[4]⟩ (k0 <|
      k5 <|
      ww (qgo_ n (rnd:=none) a1 (((((a0).l.length:Nat):Int)).toNat) (((((((a0).l.length:Nat):Int)).toNat):Nat):Int) ((c1_a::c1_t),0) (([]:List R8),c4_1) hc4) <|
      ww (qb_ rwf_iiiiiiLu (c1_a::c1_t) 46) <|
      ll 18 ⟨(kW [1,5,14,15] [(0,0,true)] 1 0),(qbx_ a1 (((((a0).l.length:Nat):Int)).toNat) (((((((a0).l.length:Nat):Int)).toNat):Nat):Int) (([]:List R8),c4_1)).1,(qbx_ a1 (((((a0).l.length:Nat):Int)).toNat) (((((((a0).l.length:Nat):Int)).toNat):Nat):Int) (([]:List R8),c4_1)).2⟩ <|
      ee) (by kernel_rfl)
    | cons c4_0a c4_0t=>
     dsimp only at h
     obtain⟨hc5,h⟩:=gd h
     obtain⟨hc6,h⟩:=gdD h
     obtain rfl:=oI h
     subst hc5
     exact runF2 hm ⟨[4],[],0,0,[(0,Nat.add (2*codL (rows rw_iiiiiiLu (c4_0a::c4_0t))+1) 64)],true,[],[],[]⟩ (k0 <|
      k5 <|
      ww (qgo_ n (rnd:=none) a1 (((((a0).l.length:Nat):Int)).toNat) (((((((a0).l.length:Nat):Int)).toNat):Nat):Int) ((c1_a::c1_t),0) ((c4_0a::c4_0t),(((c4_0a::c4_0t)).length)) hc4) <|
      ww (qb_ rwf_iiiiiiLu (c1_a::c1_t) 46) <|
      ll 18 ⟨(kW [1,5,14,15] [(0,0,true)] 1 0),(qbx_ a1 (((((a0).l.length:Nat):Int)).toNat) (((((((a0).l.length:Nat):Int)).toNat):Nat):Int) ((c4_0a::c4_0t),(((c4_0a::c4_0t)).length))).1,(qbx_ a1 (((((a0).l.length:Nat):Int)).toNat) (((((((a0).l.length:Nat):Int)).toNat):Nat):Int) ((c4_0a::c4_0t),(((c4_0a::c4_0t)).length))).2⟩ <|
      ww (qf5_ ql_ q2_ qc_ (c4_0a::c4_0t)) <|
      ee) (by kernel_rfl)
   ·rw[if_neg hc3] at h
    obtain⟨hc4,h⟩:=gd h
    obtain⟨hc5,h⟩:=gdD h
    obtain rfl:=oI h
    have k0_:Gv P (.func 15) (qs4_ a0 a1) (qs5_ a0 a1) (Value.slice (some ⟨Nat.add (2*codL (rows rw_iiiiiiLu (c1_a::c1_t))+1) 64,0,some 1⟩) (((((a0).l.length:Nat):Int)).toNat) (Nat.add big (((((a0).l.length:Nat):Int)).toNat))) (qoc_ a0 a1 (frzR qc_ (c1_a::c1_t) hc5)):=runF2 hm ⟨[4],[],0,0,[(0,Nat.add (2*codL (rows rw_iiiiiiLu (c1_a::c1_t))+1) 64)],true,[],[],[]⟩ (k0 <|
    yy 10 (vt) <|
    ww (p:=(Value.bool (!c2_))=(Value.bool true)) (vBn (Bool.eq_false_iff.2 hc3)) <|
    ww (qf5_ ql_ q2_ qc_ (c1_a::c1_t)) <|
    ee) (by kernel_rfl)
    have k1_:=gvLen (fn:=fun m_=>(Value.slice (some ⟨Nat.add (2*codL (rows rw_iiiiiiLu (c1_a::c1_t))+1) 64,0,some 1⟩) m_ (Nat.add big m_))) hc4 k0_
    exact k1_

def qlu_ (a0:W8)(r:(Unit) ⊕ (List R8)):Value:=match r with
 | .inl _=>(Value.slice none 0 0)
 | .inr o0=>(sN 0 0 (o0).length (Nat.add big 8))
def qlv_ (a0:W8)(r:(Unit) ⊕ (List R8)):AH:=match r with
 | .inl _=>⟨sB [],0,0⟩
 | .inr o0=>⟨sB [(0,(cB (rows rw_iiiiiiLu o0) 46))],1,0⟩
abbrev qsm_ (a0:W8)(r:(Unit) ⊕ (List R8)):Prop:=Gv P (.func 42) [(wlV a0)] ⟨sB [],0,0⟩ (qlu_ a0 r) (qlv_ a0 r)
abbrev qf8_ (a0:W8)(r:(Unit) ⊕ (List R8))(ins outs:BL):CallA:=⟨0,ins,qlu_ a0 r,qlv_ a0 r,outs⟩
def qb2_ (n:Nat)(a0:W8):Option ((Unit) ⊕ (List R8)):=
 match qf_ n a0 0 with
 | none=>none
 | some (.inl _)=>
  some (.inl ())
 | some (.inr c1_)=>
  some (.inr c1_)
theorem qep_ (n:Nat)(a0:W8)(r:(Unit) ⊕ (List R8))(h:qb2_ n a0=some r):qsm_ a0 r:=by
 unfold qb2_ at h
 rcases hc1:qf_ n a0 0 with _ | (⟨⟩ | c1_)
 ·rw[hc1] at h; cases h
 ·rw[hc1] at h
  dsimp only at h
  obtain rfl:=oI h
  exact runF2 hm (kW [2] [] 0 0) (yy 4 (.call (qi_ a0 0 (.inl ()) [] [])) <|
   ww (qg_ n a0 0 (.inl ()) hc1) <|
   ee) (by kernel_rfl)
 ·rw[hc1] at h
  dsimp only at h
  obtain rfl:=oI h
  exact runF2 hm (kW [2] [(0,0,true)] 1 0) (yy 4 (.call (qi_ a0 0 (.inr c1_) [] [(0,0,true)])) <|
   ww (qg_ n a0 0 (.inr c1_) hc1) <|
   ww (qb_ rwf_iiiiiiLu c1_ 46) <|
   ww (qb_ rwf_iiiiiiLu c1_ 46) <|
   ee) (by kernel_rfl)

def qk1_ (a0:W8)(a1:Int)(r:W8):Value:=match r with
 | o0=>(wlV o0)
def qk2_ (a0:W8)(a1:Int)(r:W8):AH:=match r with
 | o0=>⟨sB [],0,0⟩
abbrev qrx_ (a0:W8)(a1:Int)(r:W8):Prop:=Gv P (.func 16) [(wlV a0),(i6 a1)] ⟨sB [],0,0⟩ (qk1_ a0 a1 r) (qk2_ a0 a1 r)
abbrev qk3_ (a0:W8)(a1:Int)(r:W8)(ins outs:BL):CallA:=⟨0,ins,qk1_ a0 a1 r,qk2_ a0 a1 r,outs⟩
def qeq_ (x0:Int)(x2:Nat)(st:List R8×Int):XSt:=match st with
 | (x1,x3)=>(sT 33 [(1,(i6 x0)),(5,(slQ x1 0 x2 8)),(6,(i6 x3))],[],⟨sB [(0,(nblkR rw_iiiiiiLu x1 46))],1,0⟩)
def qs_ (x0:Int)(x2:Nat)(r:List R8×Nat):Ex×XSt:=match r with
 | (z0,z1)=>(.exit 0,(sT 33 [(5,(slQ z0 0 z1 8))],[],⟨sB [(0,(nblkR rw_iiiiiiLu z0 46))],1,0⟩))
abbrev qpv_ (rnd:Option Nat)(x0:Int)(x2:Nat)(st:List R8×Int)(c:Ex×XSt):Prop:=CG P rnd (fnN P 16) 0 (qp_ P 16 [false,false,true,false,true,true]) (qeq_ x0 x2 st) c
abbrev qpw_ (rd:Option Nat)(x0:Int)(x2:Nat)(st:List R8×Int)(r:List R8×Nat):Prop:=CG P rd (fnN P 16) 0 (qp_ P 16 [false,true,false,true,true]) (qeq_ x0 x2 st) (qs_ x0 x2 r)
def qbc_ (n:Nat)(x0:Int)(x2:Nat)(st:List R8×Int):Option ((List R8×Int) ⊕ (List R8×Nat)):=match st with
 | (x1,x3)=>
  match x1 with
  | []=>
   if x3<0 then
    (qv_ n x0).bind fun y2_=>
    if y2_=true then
     none
    else
     some (.inr (([]:List R8),0))
   else
    some (.inr (([]:List R8),0))
  | x1a::x1t=>
   if x3<((x2:Nat):Int) then
    (qv_ n x0).bind fun y2_=>
    if y2_=true then
     if 0≤x3∧x3<((x2:Nat):Int) then
      if (x3).toNat<((x1a::x1t)).length then
       ((some (((x1a::x1t)).getD (x3).toNat (0,0,0,0,0,0,nl0,0)))).bind fun y6_=>
       if 0≤(IntKind.u64.wrap x0) then
        ((some (qoo_ .u64 (y6_.2.2.2.2.2.2.2) (shlV .u64 (1:Int) (IntKind.u64.wrap x0))))).bind fun y8_=>
        some (.inl ((((x1a::x1t)).set (x3).toNat ((y6_.1),(y6_.2.1),(y6_.2.2.1),(y6_.2.2.2.1),(y6_.2.2.2.2.1),(y6_.2.2.2.2.2.1),(y6_.2.2.2.2.2.2.1),y8_)),(w64 (x3+1))))
       else none
      else none
     else none
    else
     some (.inr ((x1a::x1t),x2))
   else
    some (.inr ((x1a::x1t),x2))
def qbd_ (n:Nat)(x0:Int)(x2:Nat)(st:List R8×Int):Option (List R8×Nat):=iterM (qbc_ n x0 x2) n st
theorem qjn_ (n:Nat){rnd:Option Nat}(x0:Int)(x2:Nat)(st:List R8×Int)(o:(List R8×Int) ⊕ (List R8×Nat))(h:qbc_ n x0 x2 st=some o):qpv_ rnd x0 x2 st (Sum.elim (fun s=>(.normal,qeq_ x0 x2 s)) (fun r=>qs_ x0 x2 r) o):=by
 obtain⟨x1,x3⟩:=st
 unfold qbc_ at h
 dsimp only at h
 cases x1 with
 | nil=>
  dsimp only at h
  by_cases hy1:x3<0
  ·rw[if_pos hy1] at h
   obtain⟨y2_,hy2,h⟩:=oB h
   have k0:=fun {A L l} (k:PL A L l)=>zz 5 (xdT hy1) <|
    yy 8 (.call (qcp_ x0 y2_ [] [])) <|
    ww (qbt_ n x0 y2_ hy2) <|
    k
   by_cases hy3:y2_=true
   ·rw[if_pos hy3] at h
    cases h
   ·rw[if_neg hy3] at h
    obtain rfl:=oI h
    exact runC2 hm (kW [5] [] 1 0) (k0 <|
     zz 10 (xbF hy3) <|
     ee) (by kernel_rfl)
  ·rw[if_neg hy1] at h
   obtain rfl:=oI h
   exact runC2 hm (kW [5] [] 1 0) (zz 5 (xdF hy1) <|
    ee) (by kernel_rfl)
 | cons x1a x1t=>
  dsimp only at h
  by_cases hy1:x3<((x2:Nat):Int)
  ·rw[if_pos hy1] at h
   obtain⟨y2_,hy2,h⟩:=oB h
   have k0:=fun {A L l} (k:PL A L l)=>zz 5 (xdT hy1) <|
    yy 8 (.call (qcp_ x0 y2_ [] [])) <|
    ww (qbt_ n x0 y2_ hy2) <|
    k
   by_cases hy3:y2_=true
   ·rw[if_pos hy3] at h
    obtain⟨hy4,h⟩:=gd h
    obtain⟨hy5,h⟩:=gd h
    obtain⟨y6_,hy6,h⟩:=oB h
    obtain⟨hy7,h⟩:=gd h
    obtain⟨y8_,hy8,h⟩:=oB h
    obtain rfl:=oI h
    obtain⟨za,zt,hz⟩:∃ a t,(((x1a::x1t)).set (x3).toNat ((y6_.1),(y6_.2.1),(y6_.2.2.1),(y6_.2.2.2.1),(y6_.2.2.2.2.1),(y6_.2.2.2.2.2.1),(y6_.2.2.2.2.2.2.1),y8_))=a::t:=qmn_
    rw[hz]
    try rw[hz] at k0
    exact runC2 hm (kW [1,5,6] [(0,0,true)] 1 0) (k0 <|
     zz 10 (xbT hy3) <|
     zz 17 (xk3 0 U8 hy4) <|
     zz 19 (ok20 hy6 (hy5)) <|
     yy 22 (.pur (Value.int .u64 (shlV .u64 (1:Int) (IntKind.u64.wrap x0)))) <|
     ww (p:=opBin P .shl 41 (.const (Value.int .u64 (1:Int))) (.tmp 27) (Value.int .u64 (1:Int)) (Value.int .u64 (IntKind.u64.wrap x0)) Ax.h0=some ((Value.int .u64 (shlV .u64 (1:Int) (IntKind.u64.wrap x0))),Ax.h0)) (qop_ hy7) <|
     zz 23 (xnmK (k:=.u64) hy8) <|
     zz 24 (xk3 0 U8 hy4) <|
     yy 26 (.sto (layT (rows rw_iiiiiiLu (za::zt)))) <|
     ww (p:=∃ old,rdT (layT (rows rw_iiiiiiLu (x1a::x1t))) 1 (Nat.add ((x3).toNat*8) 7)=some old) ((ste (k:=1) (qf9_ rwf_iiiiiiLu (0,0,0,0,0,0,nl0,0) (hr:=hy6) (i:=(x3).toNat) (j:=7) (l:=[(Value.int .u64 y8_)]) ((y6_.1),(y6_.2.1),(y6_.2.2.1),(y6_.2.2.2.1),(y6_.2.2.2.2.1),(y6_.2.2.2.2.2.1),(y6_.2.2.2.2.2.2.1),y8_) (Nat.add ((x3).toNat*8) 7) rfl (hy5) (Nat.le_of_ble_eq_true rfl) rfl)).p) <|
     ww (p:=layL [(Value.int .u64 y8_)] (Nat.add ((x3).toNat*8) 7) (layT (rows rw_iiiiiiLu (x1a::x1t)))=layT (rows rw_iiiiiiLu (za::zt))) (by rw[←hz]; exact (ste (k:=1) (qf9_ rwf_iiiiiiLu (0,0,0,0,0,0,nl0,0) (hr:=hy6) (i:=(x3).toNat) (j:=7) (l:=[(Value.int .u64 y8_)]) ((y6_.1),(y6_.2.1),(y6_.2.2.1),(y6_.2.2.2.1),(y6_.2.2.2.2.1),(y6_.2.2.2.2.2.1),(y6_.2.2.2.2.2.2.1),y8_) (Nat.add ((x3).toNat*8) 7) rfl (hy5) (Nat.le_of_ble_eq_true rfl) rfl)).q) <|
     ww (qb_ rwf_iiiiiiLu (za::zt) 46) <|
     ee) (by kernel_rfl)
   ·rw[if_neg hy3] at h
    obtain rfl:=oI h
    exact runC2 hm (kW [5] [(0,0,true)] 1 0) (k0 <|
     zz 10 (xbF hy3) <|
     ww (qb_ rwf_iiiiiiLu (x1a::x1t) 46) <|
     ee) (by kernel_rfl)
  ·rw[if_neg hy1] at h
   obtain rfl:=oI h
   exact runC2 hm (kW [5] [(0,0,true)] 1 0) (zz 5 (xdF hy1) <|
    ww (qb_ rwf_iiiiiiLu (x1a::x1t) 46) <|
    ee) (by kernel_rfl)
theorem qdq_ (n:Nat){rnd:Option Nat}(x0:Int)(x2:Nat)(st:List R8×Int)(r:List R8×Nat)(h:qbd_ n x0 x2 st=some r):qpw_ rnd x0 x2 st r:=
 CG.iter (b:=qp_ P 16 [false,false,true,false,true,true]) (by kernel_rfl) (body:=qbc_ n x0 x2) (S:=qeq_ x0 x2) (X:=qs_ x0 x2)
  (fun s s' h=>qjn_ n x0 x2 s (.inl s') h)
  (fun s r h=>qjn_ n x0 x2 s (.inr r) h)
  (fun r=>by intro hx; cases hx) h
def qc3_ (n:Nat)(a0:W8)(a1:Int):Option (W8):=
 match qb2_ n a0 with
 | none=>none
 | some (.inl _)=>
  (qbd_ n a1 0 (([]:List R8),0)).bind fun t=>match t with
  | (c2_0,c2_1)=>
   match c2_0 with
   | []=>
    some (wl0:W8)
   | c2_0a::c2_0t=>
    if c2_1=(c2_0a::c2_0t).length then
     if hc4:(c2_0a::c2_0t).length≤9223372036854775807 then
      some (frzR qc_ (c2_0a::c2_0t) hc4)
     else none
    else none
 | some (.inr c1_)=>
  match c1_ with
  | []=>
   none
  | c1_a::c1_t=>
   (qbd_ n a1 (((c1_a::c1_t)).length) ((c1_a::c1_t),0)).bind fun t=>match t with
   | (c2_0,c2_1)=>
    match c2_0 with
    | []=>
     some (wl0:W8)
    | c2_0a::c2_0t=>
     if c2_1=(c2_0a::c2_0t).length then
      if hc4:(c2_0a::c2_0t).length≤9223372036854775807 then
       some (frzR qc_ (c2_0a::c2_0t) hc4)
      else none
     else none
theorem qi2_ (n:Nat)(a0:W8)(a1:Int)(r:W8)(h:qc3_ n a0 a1=some r):qrx_ a0 a1 r:=by
 unfold qc3_ at h
 rcases hc1:qb2_ n a0 with _ | (⟨⟩ | c1_)
 ·rw[hc1] at h; cases h
 ·rw[hc1] at h
  dsimp only at h
  obtain⟨⟨c2_0,c2_1⟩,hc2,h⟩:=oB h
  dsimp only at h
  have k0:=fun {A L l} (k:PL A L l)=>yy 4 (.call (qf8_ a0 (.inl ()) [] [])) <|
   ww (qep_ n a0 (.inl ()) hc1) <|
   k
  cases c2_0 with
  | nil=>
   dsimp only at h
   obtain rfl:=oI h
   exact runF2 hm ⟨[4],[],0,0,[],true,[],[],[4]⟩ (k0 <|
    ww (qdq_ n (rnd:=none) a1 0 (([]:List R8),0) (([]:List R8),c2_1) hc2) <|
    ll 10 ⟨(kW [1,5,6] [] 1 0),(qs_ a1 0 (([]:List R8),c2_1)).1,(qs_ a1 0 (([]:List R8),c2_1)).2⟩ <|
    ee) (by kernel_rfl)
  | cons c2_0a c2_0t=>
   dsimp only at h
   obtain⟨hc3,h⟩:=gd h
   obtain⟨hc4,h⟩:=gdD h
   obtain rfl:=oI h
   subst hc3
   exact runF2 hm ⟨[4],[],0,0,[(0,Nat.add (2*codL (rows rw_iiiiiiLu (c2_0a::c2_0t))+1) 64)],true,[],[],[]⟩ (k0 <|
    ww (qdq_ n (rnd:=none) a1 0 (([]:List R8),0) ((c2_0a::c2_0t),(((c2_0a::c2_0t)).length)) hc2) <|
    ll 10 ⟨(kW [1,5,6] [] 1 0),(qs_ a1 0 ((c2_0a::c2_0t),(((c2_0a::c2_0t)).length))).1,(qs_ a1 0 ((c2_0a::c2_0t),(((c2_0a::c2_0t)).length))).2⟩ <|
    ww (qf5_ ql_ q2_ qc_ (c2_0a::c2_0t)) <|
    ee) (by kernel_rfl)
 ·rw[hc1] at h
  dsimp only at h
  cases c1_ with
  | nil=>
   dsimp only at h
   cases h
  | cons c1_a c1_t=>
   dsimp only at h
   obtain⟨⟨c2_0,c2_1⟩,hc2,h⟩:=oB h
   dsimp only at h
   have k0:=fun {A L l} (k:PL A L l)=>yy 4 (.call (qf8_ a0 (.inr (c1_a::c1_t)) [] [(0,0,true)])) <|
    ww (qep_ n a0 (.inr (c1_a::c1_t)) hc1) <|
    ww (qb_ rwf_iiiiiiLu (c1_a::c1_t) 46) <|
    k
   cases c2_0 with
   | nil=>
    dsimp only at h
    obtain rfl:=oI h
    exact runF2 hm ⟨[4],[],0,0,[],true,[],[],[4]⟩ (k0 <|
     ww (qdq_ n (rnd:=none) a1 (((c1_a::c1_t)).length) ((c1_a::c1_t),0) (([]:List R8),c2_1) hc2) <|
     ww (qb_ rwf_iiiiiiLu (c1_a::c1_t) 46) <|
     ll 10 ⟨(kW [1,5,6] [(0,0,true)] 1 0),(qs_ a1 (((c1_a::c1_t)).length) (([]:List R8),c2_1)).1,(qs_ a1 (((c1_a::c1_t)).length) (([]:List R8),c2_1)).2⟩ <|
     ee) (by kernel_rfl)
   | cons c2_0a c2_0t=>
    dsimp only at h
    obtain⟨hc3,h⟩:=gd h
    obtain⟨hc4,h⟩:=gdD h
    obtain rfl:=oI h
    subst hc3
    exact runF2 hm ⟨[4],[],0,0,[(0,Nat.add (2*codL (rows rw_iiiiiiLu (c2_0a::c2_0t))+1) 64)],true,[],[],[]⟩ (k0 <|
     ww (qdq_ n (rnd:=none) a1 (((c1_a::c1_t)).length) ((c1_a::c1_t),0) ((c2_0a::c2_0t),(((c2_0a::c2_0t)).length)) hc2) <|
     ww (qb_ rwf_iiiiiiLu (c1_a::c1_t) 46) <|
     ll 10 ⟨(kW [1,5,6] [(0,0,true)] 1 0),(qs_ a1 (((c1_a::c1_t)).length) ((c2_0a::c2_0t),(((c2_0a::c2_0t)).length))).1,(qs_ a1 (((c1_a::c1_t)).length) ((c2_0a::c2_0t),(((c2_0a::c2_0t)).length))).2⟩ <|
     ww (qf5_ ql_ q2_ qc_ (c2_0a::c2_0t)) <|
     ee) (by kernel_rfl)

def qpx_ (a0:W8)(a1 a2:Int):List Value:=[(wlV a0),(i6 a1),(i6 a2)]
def qpy_ (a0:W8)(a1 a2:Int):AH:=⟨sB [],0,0⟩
def qux_ (a0:W8)(a1 a2:Int)(r:W8):Value:=match r with
 | o0=>(wlV o0)
def ql8_ (a0:W8)(a1 a2:Int)(r:W8):AH:=match r with
 | o0=>⟨sB [],0,0⟩
abbrev q1p_ (a0:W8)(a1 a2:Int)(r:W8):Prop:=Gv P (.func 17) (qpx_ a0 a1 a2) (qpy_ a0 a1 a2) (qux_ a0 a1 a2 r) (ql8_ a0 a1 a2 r)
abbrev quy_ (a0:W8)(a1 a2:Int)(r:W8)(ins outs:BL):CallA:=⟨0,ins,qux_ a0 a1 a2 r,ql8_ a0 a1 a2 r,outs⟩
def qjo_ (x0 x1:Int)(x3:Nat)(x4:Int)(st:List R8×Int):XSt:=match st with
 | (x2,x5)=>(sT 57 [(1,(i6 x0)),(2,(i6 x1)),(7,(slKQ x2 0 x3 0 x3)),(22,(i6 x4)),(23,(i6 x5))],[],⟨sB [(0,(nblkR rw_iiiiiiLu x2 46))],1,0⟩)
def qcj_ (x0 x1:Int)(x3:Nat)(x4:Int)(r:List R8×Nat):Ex×XSt:=match r with
 | (z0,z1)=>(.exit 0,(sT 57 [(7,(slKQ z0 0 z1 0 z1))],[],⟨sB [(0,(nblkR rw_iiiiiiLu z0 46))],1,0⟩))
abbrev qy4_ (rnd:Option Nat)(x0 x1:Int)(x3:Nat)(x4:Int)(st:List R8×Int)(c:Ex×XSt):Prop:=CG P rnd (fnN P 17) 0 (qp_ P 17 [false,false,true,false,true,true,true]) (qjo_ x0 x1 x3 x4 st) c
abbrev qy5_ (rd:Option Nat)(x0 x1:Int)(x3:Nat)(x4:Int)(st:List R8×Int)(r:List R8×Nat):Prop:=CG P rd (fnN P 17) 0 (qp_ P 17 [false,true,false,true,true,true]) (qjo_ x0 x1 x3 x4 st) (qcj_ x0 x1 x3 x4 r)
def qe6_ (n:Nat)(x0 x1:Int)(x3:Nat)(x4:Int)(st:List R8×Int):Option ((List R8×Int) ⊕ (List R8×Nat)):=match st with
 | (x2,x5)=>
  match x2 with
  | []=>
   if x5<x4 then
    none
   else
    some (.inr (([]:List R8),0))
  | x2a::x2t=>
   if x5<x4 then
    if 0≤x5∧x5<((x3:Nat):Int) then
     if (x5).toNat<((x2a::x2t)).length then
      ((some (((x2a::x2t)).getD (x5).toNat (0,0,0,0,0,0,nl0,0)))).bind fun y4_=>
      if 0≤x0 then
       if (bAnd .u64 (shrV .u64 (y4_.2.2.2.2.2.2.2) x0) (1:Int))=1 then
        ((some (qoo_ .u64 (y4_.2.2.2.2.2.2.2) (shlV .u64 (1:Int) x0)))).bind fun y7_=>
        if 0≤x1 then
         some (.inl ((((x2a::x2t)).set (x5).toNat ((y4_.1),(y4_.2.1),(y4_.2.2.1),(y4_.2.2.2.1),(y4_.2.2.2.2.1),(y4_.2.2.2.2.2.1),(y4_.2.2.2.2.2.2.1),(bOr .u64 y7_ (shlV .u64 (1:Int) x1)))),(w64 (x5+1))))
        else none
       else
        some (.inl ((x2a::x2t),(w64 (x5+1))))
      else none
     else none
    else none
   else
    some (.inr ((x2a::x2t),x3))
def qgc_ (n:Nat)(x0 x1:Int)(x3:Nat)(x4:Int)(st:List R8×Int):Option (List R8×Nat):=iterM (qe6_ n x0 x1 x3 x4) n st
theorem qry_ (n:Nat){rnd:Option Nat}(x0 x1:Int)(x3:Nat)(x4:Int)(st:List R8×Int)(o:(List R8×Int) ⊕ (List R8×Nat))(h:qe6_ n x0 x1 x3 x4 st=some o):qy4_ rnd x0 x1 x3 x4 st (Sum.elim (fun s=>(.normal,qjo_ x0 x1 x3 x4 s)) (fun r=>qcj_ x0 x1 x3 x4 r) o):=by
 obtain⟨x2,x5⟩:=st
 unfold qe6_ at h
 dsimp only at h
 cases x2 with
 | nil=>
  dsimp only at h
  by_cases hy1:x5<x4
  ·rw[if_pos hy1] at h
   cases h
  ·rw[if_neg hy1] at h
   obtain rfl:=oI h
   exact runC2 hm (kW [7] [] 1 0) (zz 1 (xdF hy1) <|
    ee) (by kernel_rfl)
 | cons x2a x2t=>
  dsimp only at h
  by_cases hy1:x5<x4
  ·rw[if_pos hy1] at h
   obtain⟨hy2,h⟩:=gd h
   obtain⟨hy3,h⟩:=gd h
   obtain⟨y4_,hy4,h⟩:=oB h
   obtain⟨hy5,h⟩:=gd h
   have k0:=fun {A L l} (k:PL A L l)=>zz 1 (xdT hy1) <|
    zz 12 (xk3 0 x3 hy2) <|
    zz 18 (ok20 hy4 (hy3)) <|
    yy 20 (.pur (Value.int .u64 (shrV .u64 (y4_.2.2.2.2.2.2.2) x0))) <|
    ww (p:=opBin P .shr 41 (.tmp 32) (.tmp 33) (Value.int .u64 (y4_.2.2.2.2.2.2.2)) (i6 x0) Ax.h0=some ((Value.int .u64 (shrV .u64 (y4_.2.2.2.2.2.2.2) x0)),Ax.h0)) (qz8_ hy5) <|
    k
   by_cases hy6:(bAnd .u64 (shrV .u64 (y4_.2.2.2.2.2.2.2) x0) (1:Int))=1
   ·rw[if_pos hy6] at h
    obtain⟨y7_,hy7,h⟩:=oB h
    obtain⟨hy8,h⟩:=gd h
    obtain rfl:=oI h
    obtain⟨za,zt,hz⟩:∃ a t,(((x2a::x2t)).set (x5).toNat ((y4_.1),(y4_.2.1),(y4_.2.2.1),(y4_.2.2.2.1),(y4_.2.2.2.2.1),(y4_.2.2.2.2.2.1),(y4_.2.2.2.2.2.2.1),(bOr .u64 y7_ (shlV .u64 (1:Int) x1))))=a::t:=qmn_
    rw[hz]
    try rw[hz] at k0
    exact runC2 hm (kW [1,2,7,22,23] [(0,0,true)] 1 0) (k0 <|
     zz 22 (xeT hy6) <|
     zz 28 (ok20 hy4 (hy3)) <|
     yy 30 (.pur (Value.int .u64 (shlV .u64 (1:Int) x0))) <|
     ww (p:=opBin P .shl 41 (.const (Value.int .u64 (1:Int))) (.tmp 41) (Value.int .u64 (1:Int)) (i6 x0) Ax.h0=some ((Value.int .u64 (shlV .u64 (1:Int) x0)),Ax.h0)) (qj4_ hy5) <|
     zz 31 (xnmK (k:=.u64) hy7) <|
     z2 34 (ste (k:=1) (qf9_ rwf_iiiiiiLu (0,0,0,0,0,0,nl0,0) (hr:=hy4) (i:=(x5).toNat) (j:=7) (l:=[(Value.int .u64 y7_)]) ((y4_.1),(y4_.2.1),(y4_.2.2.1),(y4_.2.2.2.1),(y4_.2.2.2.2.1),(y4_.2.2.2.2.2.1),(y4_.2.2.2.2.2.2.1),y7_) (Nat.add ((x5).toNat*8) 7) rfl (hy3) (Nat.le_of_ble_eq_true rfl) rfl)) <|
     yy 38 (.ld (Value.int .u64 y7_)) <|
     ww (p:=(layT (rows rw_iiiiiiLu (((x2a::x2t)).set (x5).toNat ((y4_.1),(y4_.2.1),(y4_.2.2.1),(y4_.2.2.2.1),(y4_.2.2.2.2.1),(y4_.2.2.2.2.2.1),(y4_.2.2.2.2.2.2.1),y7_)))).get (Nat.add ((x5).toNat*8) 7)=some (Value.int .u64 y7_)) (rows_ldS rwf_iiiiiiLu (i:=(x5).toNat) (j:=7) ((y4_.1),(y4_.2.1),(y4_.2.2.1),(y4_.2.2.2.1),(y4_.2.2.2.2.1),(y4_.2.2.2.2.2.1),(y4_.2.2.2.2.2.2.1),y7_) (Nat.add ((x5).toNat*8) 7) rfl (hy3) (by decide) rfl) <|
     yy 40 (.pur (Value.int .u64 (shlV .u64 (1:Int) x1))) <|
     ww (p:=opBin P .shl 41 (.const (Value.int .u64 (1:Int))) (.tmp 50) (Value.int .u64 (1:Int)) (i6 x1) Ax.h0=some ((Value.int .u64 (shlV .u64 (1:Int) x1)),Ax.h0)) (qj4_ hy8) <|
     yy 44 (.sto (layT (rows rw_iiiiiiLu (za::zt)))) <|
     ww (p:=∃ old,rdT (layT (rows rw_iiiiiiLu (((x2a::x2t)).set (x5).toNat ((y4_.1),(y4_.2.1),(y4_.2.2.1),(y4_.2.2.2.1),(y4_.2.2.2.2.1),(y4_.2.2.2.2.2.1),(y4_.2.2.2.2.2.2.1),y7_)))) 1 (Nat.add ((x5).toNat*8) 7)=some old) ((ste (k:=1) (rows_stS rwf_iiiiiiLu (i:=(x5).toNat) (j:=7) (l:=[(Value.int .u64 (bOr .u64 y7_ (shlV .u64 (1:Int) x1)))]) ((y4_.1),(y4_.2.1),(y4_.2.2.1),(y4_.2.2.2.1),(y4_.2.2.2.2.1),(y4_.2.2.2.2.2.1),(y4_.2.2.2.2.2.2.1),y7_) ((y4_.1),(y4_.2.1),(y4_.2.2.1),(y4_.2.2.2.1),(y4_.2.2.2.2.1),(y4_.2.2.2.2.2.1),(y4_.2.2.2.2.2.2.1),(bOr .u64 y7_ (shlV .u64 (1:Int) x1))) (Nat.add ((x5).toNat*8) 7) rfl (hy3) (Nat.le_of_ble_eq_true rfl) rfl)).p) <|
     ww (p:=layL [(Value.int .u64 (bOr .u64 y7_ (shlV .u64 (1:Int) x1)))] (Nat.add ((x5).toNat*8) 7) (layT (rows rw_iiiiiiLu (((x2a::x2t)).set (x5).toNat ((y4_.1),(y4_.2.1),(y4_.2.2.1),(y4_.2.2.2.1),(y4_.2.2.2.2.1),(y4_.2.2.2.2.2.1),(y4_.2.2.2.2.2.2.1),y7_))))=layT (rows rw_iiiiiiLu (za::zt))) (by rw[←hz]; exact (ste (k:=1) (rows_stS rwf_iiiiiiLu (i:=(x5).toNat) (j:=7) (l:=[(Value.int .u64 (bOr .u64 y7_ (shlV .u64 (1:Int) x1)))]) ((y4_.1),(y4_.2.1),(y4_.2.2.1),(y4_.2.2.2.1),(y4_.2.2.2.2.1),(y4_.2.2.2.2.2.1),(y4_.2.2.2.2.2.2.1),y7_) ((y4_.1),(y4_.2.1),(y4_.2.2.1),(y4_.2.2.2.1),(y4_.2.2.2.2.1),(y4_.2.2.2.2.2.1),(y4_.2.2.2.2.2.2.1),(bOr .u64 y7_ (shlV .u64 (1:Int) x1))) (Nat.add ((x5).toNat*8) 7) rfl (hy3) (Nat.le_of_ble_eq_true rfl) rfl)).q) <|
     ww (qb_ rwf_iiiiiiLu (za::zt) 46) <|
     ee) (by kernel_rfl)
   ·rw[if_neg hy6] at h
    obtain rfl:=oI h
    exact runC2 hm (kW [1,2,7,22,23] [(0,0,true)] 1 0) (k0 <|
     zz 22 (xeF hy6) <|
     ww (qb_ rwf_iiiiiiLu (x2a::x2t) 46) <|
     ee) (by kernel_rfl)
  ·rw[if_neg hy1] at h
   obtain rfl:=oI h
   exact runC2 hm (kW [7] [(0,0,true)] 1 0) (zz 1 (xdF hy1) <|
    ww (qb_ rwf_iiiiiiLu (x2a::x2t) 46) <|
    ee) (by kernel_rfl)
theorem qg6_ (n:Nat){rnd:Option Nat}(x0 x1:Int)(x3:Nat)(x4:Int)(st:List R8×Int)(r:List R8×Nat)(h:qgc_ n x0 x1 x3 x4 st=some r):qy5_ rnd x0 x1 x3 x4 st r:=
 CG.iter (b:=qp_ P 17 [false,false,true,false,true,true,true]) (by kernel_rfl) (body:=qe6_ n x0 x1 x3 x4) (S:=qjo_ x0 x1 x3 x4) (X:=qcj_ x0 x1 x3 x4)
  (fun s s' h=>qry_ n x0 x1 x3 x4 s (.inl s') h)
  (fun s r h=>qry_ n x0 x1 x3 x4 s (.inr r) h)
  (fun r=>by intro hx; cases hx) h
def qhs_ (n:Nat)(a0:W8)(a1 a2:Int):Option (W8):=
 match qhj_ n a0 with
 | none=>none
 | some (.inl _)=>
  (qcd_ n a1).bind fun c2_=>
  if c2_=true then
   (qcd_ n a2).bind fun c4_=>
   if c4_=true then
    (qgc_ n a1 a2 0 0 (([]:List R8),0)).bind fun t=>match t with
    | (c6_0,c6_1)=>
     match c6_0 with
     | []=>
      some (wl0:W8)
     | c6_0a::c6_0t=>
      if c6_1=(c6_0a::c6_0t).length then
       if hc8:(c6_0a::c6_0t).length≤9223372036854775807 then
        some (frzR qc_ (c6_0a::c6_0t) hc8)
       else none
      else none
   else
    some (wl0:W8)
  else
   some (wl0:W8)
 | some (.inr c1_)=>
  match c1_ with
  | []=>
   none
  | c1_a::c1_t=>
   (qcd_ n a1).bind fun c2_=>
   if c2_=true then
    (qcd_ n a2).bind fun c4_=>
    if c4_=true then
     (qgc_ n a1 a2 (((((a0).l.length:Nat):Int)).toNat) (((((((a0).l.length:Nat):Int)).toNat):Nat):Int) ((c1_a::c1_t),0)).bind fun t=>match t with
     | (c6_0,c6_1)=>
      match c6_0 with
      | []=>
       some (wl0:W8)
      | c6_0a::c6_0t=>
       if c6_1=(c6_0a::c6_0t).length then
        if hc8:(c6_0a::c6_0t).length≤9223372036854775807 then
         some (frzR qc_ (c6_0a::c6_0t) hc8)
        else none
       else none
    else
     if (((((a0).l.length:Nat):Int)).toNat)=(c1_a::c1_t).length then
      if hc7:(c1_a::c1_t).length≤9223372036854775807 then
       some (frzR qc_ (c1_a::c1_t) hc7)
      else none
     else none
   else
    if (((((a0).l.length:Nat):Int)).toNat)=(c1_a::c1_t).length then
     if hc5:(c1_a::c1_t).length≤9223372036854775807 then
      some (frzR qc_ (c1_a::c1_t) hc5)
     else none
    else none
theorem qp9_ (n:Nat)(a0:W8)(a1 a2:Int)(r:W8)(h:qhs_ n a0 a1 a2=some r):q1p_ a0 a1 a2 r:=by
 unfold qhs_ at h
 rcases hc1:qhj_ n a0 with _ | (⟨⟩ | c1_)
 ·rw[hc1] at h; cases h
 ·rw[hc1] at h
  dsimp only at h
  obtain⟨c2_,hc2,h⟩:=oB h
  have k0:=fun {A L l} (k:PL A L l)=>yy 4 (.call (qpu_ a0 (.inl ()) [] [])) <|
   ww (qkf_ n a0 (.inl ()) hc1) <|
   yy 9 (.call (qez_ a1 c2_ [] [])) <|
   ww (qc9_ n a1 c2_ hc2) <|
   k
  by_cases hc3:c2_=true
  ·rw[if_pos hc3] at h
   obtain⟨c4_,hc4,h⟩:=oB h
   have k4:=fun {A L l} (k:PL A L l)=>yy 10 (vf) <|
    ww (p:=(Value.bool (!c2_))=(Value.bool false)) (vBn hc3) <|
    yy 13 (.call (qez_ a2 c4_ [] [])) <|
    ww (qc9_ n a2 c4_ hc4) <|
    k
   by_cases hc5:c4_=true
   ·rw[if_pos hc5] at h
    obtain⟨⟨c6_0,c6_1⟩,hc6,h⟩:=oB h
    dsimp only at h
    have k8:=fun {A L l} (k:PL A L l)=>yy 14 (vf) <|
     ww (p:=(Value.bool (!c4_))=(Value.bool false)) (vBn hc5) <|
     k
    cases c6_0 with
    | nil=>
     dsimp only at h
     obtain rfl:=oI h
     exact runF2 hm ⟨[6],[],0,0,[],true,[],[],[6]⟩ (k0 <|
      k4 <|
      k8 <|
      ww (qg6_ n (rnd:=none) a1 a2 0 0 (([]:List R8),0) (([]:List R8),c6_1) hc6) <|
      ll 23 ⟨(kW [1,2,7,22,23] [] 1 0),(qcj_ a1 a2 0 0 (([]:List R8),c6_1)).1,(qcj_ a1 a2 0 0 (([]:List R8),c6_1)).2⟩ <|
      ee) (by kernel_rfl)
    | cons c6_0a c6_0t=>
     dsimp only at h
     obtain⟨hc7,h⟩:=gd h
     obtain⟨hc8,h⟩:=gdD h
     obtain rfl:=oI h
     subst hc7
     exact runF2 hm ⟨[6],[],0,0,[(0,Nat.add (2*codL (rows rw_iiiiiiLu (c6_0a::c6_0t))+1) 64)],true,[],[],[]⟩ (k0 <|
      k4 <|
      k8 <|
      ww (qg6_ n (rnd:=none) a1 a2 0 0 (([]:List R8),0) ((c6_0a::c6_0t),(((c6_0a::c6_0t)).length)) hc6) <|
      ll 23 ⟨(kW [1,2,7,22,23] [] 1 0),(qcj_ a1 a2 0 0 ((c6_0a::c6_0t),(((c6_0a::c6_0t)).length))).1,(qcj_ a1 a2 0 0 ((c6_0a::c6_0t),(((c6_0a::c6_0t)).length))).2⟩ <|
      ww (qf5_ ql_ q2_ qc_ (c6_0a::c6_0t)) <|
      ee) (by kernel_rfl)
   ·rw[if_neg hc5] at h
    obtain rfl:=oI h
    exact runF2 hm ⟨[6],[],0,0,[],true,[],[],[6]⟩ (k0 <|
     k4 <|
     yy 14 (vt) <|
     ww (p:=(Value.bool (!c4_))=(Value.bool true)) (vBn (Bool.eq_false_iff.2 hc5)) <|
     ee) (by kernel_rfl)
  ·rw[if_neg hc3] at h
   obtain rfl:=oI h
   exact runF2 hm ⟨[6],[],0,0,[],true,[],[],[6]⟩ (k0 <|
    yy 10 (vt) <|
    ww (p:=(Value.bool (!c2_))=(Value.bool true)) (vBn (Bool.eq_false_iff.2 hc3)) <|
    ee) (by kernel_rfl)
 ·rw[hc1] at h
  dsimp only at h
  cases c1_ with
  | nil=>
   dsimp only at h
   cases h
  | cons c1_a c1_t=>
   dsimp only at h
   obtain⟨c2_,hc2,h⟩:=oB h
   have k0:=fun {A L l} (k:PL A L l)=>yy 4 (.call (qpu_ a0 (.inr (c1_a::c1_t)) [] [(0,0,true)])) <|
    ww (qkf_ n a0 (.inr (c1_a::c1_t)) hc1) <|
    ww (qb_ rwf_iiiiiiLu (c1_a::c1_t) 46) <|
    yy 9 (.call (qez_ a1 c2_ [] [])) <|
    ww (qc9_ n a1 c2_ hc2) <|
    k
   by_cases hc3:c2_=true
   ·rw[if_pos hc3] at h
    obtain⟨c4_,hc4,h⟩:=oB h
    have k5:=fun {A L l} (k:PL A L l)=>yy 10 (vf) <|
     ww (p:=(Value.bool (!c2_))=(Value.bool false)) (vBn hc3) <|
     yy 13 (.call (qez_ a2 c4_ [] [])) <|
     ww (qc9_ n a2 c4_ hc4) <|
     k
    by_cases hc5:c4_=true
    ·rw[if_pos hc5] at h
     obtain⟨⟨c6_0,c6_1⟩,hc6,h⟩:=oB h
     dsimp only at h
     have k9:=fun {A L l} (k:PL A L l)=>yy 14 (vf) <|
      ww (p:=(Value.bool (!c4_))=(Value.bool false)) (vBn hc5) <|
      k
     cases c6_0 with
     | nil=>
      dsimp only at h
      obtain rfl:=oI h
      exact runF2 hm ⟨[6],[],0,0,[],true,[],[],[6]⟩ (k0 <|
       k5 <|
       k9 <|
       ww (qg6_ n (rnd:=none) a1 a2 (((((a0).l.length:Nat):Int)).toNat) (((((((a0).l.length:Nat):Int)).toNat):Nat):Int) ((c1_a::c1_t),0) (([]:List R8),c6_1) hc6) <|
       ww (qb_ rwf_iiiiiiLu (c1_a::c1_t) 46) <|
       ll 23 ⟨(kW [1,2,7,22,23] [(0,0,true)] 1 0),(qcj_ a1 a2 (((((a0).l.length:Nat):Int)).toNat) (((((((a0).l.length:Nat):Int)).toNat):Nat):Int) (([]:List R8),c6_1)).1,(qcj_ a1 a2 (((((a0).l.length:Nat):Int)).toNat) (((((((a0).l.length:Nat):Int)).toNat):Nat):Int) (([]:List R8),c6_1)).2⟩ <|
       ee) (by kernel_rfl)
     | cons c6_0a c6_0t=>
      dsimp only at h
      obtain⟨hc7,h⟩:=gd h
      obtain⟨hc8,h⟩:=gdD h
      obtain rfl:=oI h
      subst hc7
      exact runF2 hm ⟨[6],[],0,0,[(0,Nat.add (2*codL (rows rw_iiiiiiLu (c6_0a::c6_0t))+1) 64)],true,[],[],[]⟩ (k0 <|
       k5 <|
       k9 <|
       ww (qg6_ n (rnd:=none) a1 a2 (((((a0).l.length:Nat):Int)).toNat) (((((((a0).l.length:Nat):Int)).toNat):Nat):Int) ((c1_a::c1_t),0) ((c6_0a::c6_0t),(((c6_0a::c6_0t)).length)) hc6) <|
       ww (qb_ rwf_iiiiiiLu (c1_a::c1_t) 46) <|
       ll 23 ⟨(kW [1,2,7,22,23] [(0,0,true)] 1 0),(qcj_ a1 a2 (((((a0).l.length:Nat):Int)).toNat) (((((((a0).l.length:Nat):Int)).toNat):Nat):Int) ((c6_0a::c6_0t),(((c6_0a::c6_0t)).length))).1,(qcj_ a1 a2 (((((a0).l.length:Nat):Int)).toNat) (((((((a0).l.length:Nat):Int)).toNat):Nat):Int) ((c6_0a::c6_0t),(((c6_0a::c6_0t)).length))).2⟩ <|
       ww (qf5_ ql_ q2_ qc_ (c6_0a::c6_0t)) <|
       ee) (by kernel_rfl)
    ·rw[if_neg hc5] at h
     obtain⟨hc6,h⟩:=gd h
     obtain⟨hc7,h⟩:=gdD h
     obtain rfl:=oI h
     have k0_:Gv P (.func 17) (qpx_ a0 a1 a2) (qpy_ a0 a1 a2) (Value.slice (some ⟨Nat.add (2*codL (rows rw_iiiiiiLu (c1_a::c1_t))+1) 64,0,some 1⟩) (((((a0).l.length:Nat):Int)).toNat) (Nat.add big (((((a0).l.length:Nat):Int)).toNat))) (ql8_ a0 a1 a2 (frzR qc_ (c1_a::c1_t) hc7)):=runF2 hm ⟨[6],[],0,0,[(0,Nat.add (2*codL (rows rw_iiiiiiLu (c1_a::c1_t))+1) 64)],true,[],[],[]⟩ (k0 <|
     k5 <|
     yy 14 (vt) <|
     ww (p:=(Value.bool (!c4_))=(Value.bool true)) (vBn (Bool.eq_false_iff.2 hc5)) <|
     ww (qf5_ ql_ q2_ qc_ (c1_a::c1_t)) <|
     ee) (by kernel_rfl)
     have k1_:=gvLen (fn:=fun m_=>(Value.slice (some ⟨Nat.add (2*codL (rows rw_iiiiiiLu (c1_a::c1_t))+1) 64,0,some 1⟩) m_ (Nat.add big m_))) hc6 k0_
     exact k1_
   ·rw[if_neg hc3] at h
    obtain⟨hc4,h⟩:=gd h
    obtain⟨hc5,h⟩:=gdD h
    obtain rfl:=oI h
    have k0_:Gv P (.func 17) (qpx_ a0 a1 a2) (qpy_ a0 a1 a2) (Value.slice (some ⟨Nat.add (2*codL (rows rw_iiiiiiLu (c1_a::c1_t))+1) 64,0,some 1⟩) (((((a0).l.length:Nat):Int)).toNat) (Nat.add big (((((a0).l.length:Nat):Int)).toNat))) (ql8_ a0 a1 a2 (frzR qc_ (c1_a::c1_t) hc5)):=runF2 hm ⟨[6],[],0,0,[(0,Nat.add (2*codL (rows rw_iiiiiiLu (c1_a::c1_t))+1) 64)],true,[],[],[]⟩ (k0 <|
    yy 10 (vt) <|
    ww (p:=(Value.bool (!c2_))=(Value.bool true)) (vBn (Bool.eq_false_iff.2 hc3)) <|
    ww (qf5_ ql_ q2_ qc_ (c1_a::c1_t)) <|
    ee) (by kernel_rfl)
    have k1_:=gvLen (fn:=fun m_=>(Value.slice (some ⟨Nat.add (2*codL (rows rw_iiiiiiLu (c1_a::c1_t))+1) 64,0,some 1⟩) m_ (Nat.add big m_))) hc4 k0_
    exact k1_

def qlw_ (a0:W8)(a1 a2:Int)(r:W8):Value:=match r with
 | o0=>(wlV o0)
def qlx_ (a0:W8)(a1 a2:Int)(r:W8):AH:=match r with
 | o0=>⟨sB [],0,0⟩
abbrev qsn_ (a0:W8)(a1 a2:Int)(r:W8):Prop:=Gv P (.func 18) [(wlV a0),(i6 a1),(i6 a2)] ⟨sB [],0,0⟩ (qlw_ a0 a1 a2 r) (qlx_ a0 a1 a2 r)
abbrev qly_ (a0:W8)(a1 a2:Int)(r:W8)(ins outs:BL):CallA:=⟨0,ins,qlw_ a0 a1 a2 r,qlx_ a0 a1 a2 r,outs⟩
def qfn_ (x0 x1:Int)(x3:Nat)(st:List R8×Int):XSt:=match st with
 | (x2,x4)=>(sT 53 [(1,(i6 x0)),(2,(i6 x1)),(7,(slQ x2 0 x3 8)),(8,(i6 x4))],[],⟨sB [(0,(nblkR rw_iiiiiiLu x2 46))],1,0⟩)
def qx_ (x0 x1:Int)(x3:Nat)(r:List R8×Nat):Ex×XSt:=match r with
 | (z0,z1)=>(.exit 0,(sT 53 [(7,(slQ z0 0 z1 8))],[],⟨sB [(0,(nblkR rw_iiiiiiLu z0 46))],1,0⟩))
abbrev qqr_ (rnd:Option Nat)(x0 x1:Int)(x3:Nat)(st:List R8×Int)(c:Ex×XSt):Prop:=CG P rnd (fnN P 18) 0 (qp_ P 18 [false,false,true,false,true,true]) (qfn_ x0 x1 x3 st) c
abbrev qqs_ (rd:Option Nat)(x0 x1:Int)(x3:Nat)(st:List R8×Int)(r:List R8×Nat):Prop:=CG P rd (fnN P 18) 0 (qp_ P 18 [false,true,false,true,true]) (qfn_ x0 x1 x3 st) (qx_ x0 x1 x3 r)
def qbg_ (n:Nat)(x0 x1:Int)(x3:Nat)(st:List R8×Int):Option ((List R8×Int) ⊕ (List R8×Nat)):=match st with
 | (x2,x4)=>
  match x2 with
  | []=>
   if x4<0 then
    (qv_ n x0).bind fun y2_=>
    if y2_=true then
     (qv_ n x1).bind fun y4_=>
     if y4_=true then
      none
     else
      some (.inr (([]:List R8),0))
    else
     some (.inr (([]:List R8),0))
   else
    some (.inr (([]:List R8),0))
  | x2a::x2t=>
   if x4<((x3:Nat):Int) then
    (qv_ n x0).bind fun y2_=>
    if y2_=true then
     (qv_ n x1).bind fun y4_=>
     if y4_=true then
      if 0≤x4∧x4<((x3:Nat):Int) then
       if (x4).toNat<((x2a::x2t)).length then
        ((some (((x2a::x2t)).getD (x4).toNat (0,0,0,0,0,0,nl0,0)))).bind fun y8_=>
        if 0≤(IntKind.u64.wrap x0) then
         ((some (bAnd .u64 (shrV .u64 (y8_.2.2.2.2.2.2.2) (IntKind.u64.wrap x0)) (1:Int)))).bind fun y10_=>
         if y10_=1 then
          ((some (qoo_ .u64 (y8_.2.2.2.2.2.2.2) (shlV .u64 (1:Int) (IntKind.u64.wrap x0))))).bind fun y12_=>
          if 0≤(IntKind.u64.wrap x1) then
           ((some (bOr .u64 y12_ (shlV .u64 (1:Int) (IntKind.u64.wrap x1))))).bind fun y14_=>
           some (.inl ((((x2a::x2t)).set (x4).toNat ((y8_.1),(y8_.2.1),(y8_.2.2.1),(y8_.2.2.2.1),(y8_.2.2.2.2.1),(y8_.2.2.2.2.2.1),(y8_.2.2.2.2.2.2.1),y14_)),(w64 (x4+1))))
          else none
         else
          some (.inl ((x2a::x2t),(w64 (x4+1))))
        else none
       else none
      else none
     else
      some (.inr ((x2a::x2t),x3))
    else
     some (.inr ((x2a::x2t),x3))
   else
    some (.inr ((x2a::x2t),x3))
def qbh_ (n:Nat)(x0 x1:Int)(x3:Nat)(st:List R8×Int):Option (List R8×Nat):=iterM (qbg_ n x0 x1 x3) n st
theorem qj2_ (n:Nat){rnd:Option Nat}(x0 x1:Int)(x3:Nat)(st:List R8×Int)(o:(List R8×Int) ⊕ (List R8×Nat))(h:qbg_ n x0 x1 x3 st=some o):qqr_ rnd x0 x1 x3 st (Sum.elim (fun s=>(.normal,qfn_ x0 x1 x3 s)) (fun r=>qx_ x0 x1 x3 r) o):=by
 obtain⟨x2,x4⟩:=st
 unfold qbg_ at h
 dsimp only at h
 cases x2 with
 | nil=>
  dsimp only at h
  by_cases hy1:x4<0
  ·rw[if_pos hy1] at h
   obtain⟨y2_,hy2,h⟩:=oB h
   have k0:=fun {A L l} (k:PL A L l)=>zz 5 (xdT hy1) <|
    yy 8 (.call (qcp_ x0 y2_ [] [])) <|
    ww (qbt_ n x0 y2_ hy2) <|
    k
   by_cases hy3:y2_=true
   ·rw[if_pos hy3] at h
    obtain⟨y4_,hy4,h⟩:=oB h
    have k3:=fun {A L l} (k:PL A L l)=>zz 10 (xbT hy3) <|
     yy 12 (.call (qcp_ x1 y4_ [] [])) <|
     ww (qbt_ n x1 y4_ hy4) <|
     k
    by_cases hy5:y4_=true
    ·rw[if_pos hy5] at h
     cases h
    ·rw[if_neg hy5] at h
     obtain rfl:=oI h
     exact runC2 hm (kW [7] [] 1 0) (k0 <|
      k3 <|
      zz 14 (xbF hy5) <|
      ee) (by kernel_rfl)
   ·rw[if_neg hy3] at h
    obtain rfl:=oI h
    exact runC2 hm (kW [7] [] 1 0) (k0 <|
     zz 10 (xbF hy3) <|
     ee) (by kernel_rfl)
  ·rw[if_neg hy1] at h
   obtain rfl:=oI h
   exact runC2 hm (kW [7] [] 1 0) (zz 5 (xdF hy1) <|
    ee) (by kernel_rfl)
 | cons x2a x2t=>
  dsimp only at h
  by_cases hy1:x4<((x3:Nat):Int)
  ·rw[if_pos hy1] at h
   obtain⟨y2_,hy2,h⟩:=oB h
   have k0:=fun {A L l} (k:PL A L l)=>zz 5 (xdT hy1) <|
    yy 8 (.call (qcp_ x0 y2_ [] [])) <|
    ww (qbt_ n x0 y2_ hy2) <|
    k
   by_cases hy3:y2_=true
   ·rw[if_pos hy3] at h
    obtain⟨y4_,hy4,h⟩:=oB h
    have k3:=fun {A L l} (k:PL A L l)=>zz 10 (xbT hy3) <|
     yy 12 (.call (qcp_ x1 y4_ [] [])) <|
     ww (qbt_ n x1 y4_ hy4) <|
     k
    by_cases hy5:y4_=true
    ·rw[if_pos hy5] at h
     obtain⟨hy6,h⟩:=gd h
     obtain⟨hy7,h⟩:=gd h
     obtain⟨y8_,hy8,h⟩:=oB h
     obtain⟨hy9,h⟩:=gd h
     obtain⟨y10_,hy10,h⟩:=oB h
     have k6:=fun {A L l} (k:PL A L l)=>zz 14 (xbT hy5) <|
      zz 20 (xk3 0 U8 hy6) <|
      zz 22 (ok20 hy8 (hy7)) <|
      yy 25 (.pur (Value.int .u64 (shrV .u64 (y8_.2.2.2.2.2.2.2) (IntKind.u64.wrap x0)))) <|
      ww (p:=opBin P .shr 41 (.tmp 29) (.tmp 31) (Value.int .u64 (y8_.2.2.2.2.2.2.2)) (Value.int .u64 (IntKind.u64.wrap x0)) Ax.h0=some ((Value.int .u64 (shrV .u64 (y8_.2.2.2.2.2.2.2) (IntKind.u64.wrap x0))),Ax.h0)) (qz9_ hy9) <|
      zz 26 (xnmK (k:=.u64) hy10) <|
      k
     by_cases hy11:y10_=1
     ·rw[if_pos hy11] at h
      obtain⟨y12_,hy12,h⟩:=oB h
      obtain⟨hy13,h⟩:=gd h
      obtain⟨y14_,hy14,h⟩:=oB h
      obtain rfl:=oI h
      obtain⟨za,zt,hz⟩:∃ a t,(((x2a::x2t)).set (x4).toNat ((y8_.1),(y8_.2.1),(y8_.2.2.1),(y8_.2.2.2.1),(y8_.2.2.2.2.1),(y8_.2.2.2.2.2.1),(y8_.2.2.2.2.2.2.1),y14_))=a::t:=qmn_
      rw[hz]
      try rw[hz] at k0
      try rw[hz] at k3
      try rw[hz] at k6
      exact runC2 hm (kW [1,2,7,8] [(0,0,true)] 1 0) (k0 <|
       k3 <|
       k6 <|
       zz 27 (xeT hy11) <|
       zz 33 (xk3 0 U8 hy6) <|
       zz 35 (ok20 hy8 (hy7)) <|
       yy 38 (.pur (Value.int .u64 (shlV .u64 (1:Int) (IntKind.u64.wrap x0)))) <|
       ww (p:=opBin P .shl 41 (.const (Value.int .u64 (1:Int))) (.tmp 43) (Value.int .u64 (1:Int)) (Value.int .u64 (IntKind.u64.wrap x0)) Ax.h0=some ((Value.int .u64 (shlV .u64 (1:Int) (IntKind.u64.wrap x0))),Ax.h0)) (qop_ hy9) <|
       zz 39 (xnmK (k:=.u64) hy12) <|
       yy 42 (.pur (Value.int .u64 (shlV .u64 (1:Int) (IntKind.u64.wrap x1)))) <|
       ww (p:=opBin P .shl 41 (.const (Value.int .u64 (1:Int))) (.tmp 47) (Value.int .u64 (1:Int)) (Value.int .u64 (IntKind.u64.wrap x1)) Ax.h0=some ((Value.int .u64 (shlV .u64 (1:Int) (IntKind.u64.wrap x1))),Ax.h0)) (qop_ hy13) <|
       zz 43 (xnmK (k:=.u64) hy14) <|
       zz 44 (xk3 0 U8 hy6) <|
       yy 46 (.sto (layT (rows rw_iiiiiiLu (za::zt)))) <|
       ww (p:=∃ old,rdT (layT (rows rw_iiiiiiLu (x2a::x2t))) 1 (Nat.add ((x4).toNat*8) 7)=some old) ((ste (k:=1) (qf9_ rwf_iiiiiiLu (0,0,0,0,0,0,nl0,0) (hr:=hy8) (i:=(x4).toNat) (j:=7) (l:=[(Value.int .u64 y14_)]) ((y8_.1),(y8_.2.1),(y8_.2.2.1),(y8_.2.2.2.1),(y8_.2.2.2.2.1),(y8_.2.2.2.2.2.1),(y8_.2.2.2.2.2.2.1),y14_) (Nat.add ((x4).toNat*8) 7) rfl (hy7) (Nat.le_of_ble_eq_true rfl) rfl)).p) <|
       ww (p:=layL [(Value.int .u64 y14_)] (Nat.add ((x4).toNat*8) 7) (layT (rows rw_iiiiiiLu (x2a::x2t)))=layT (rows rw_iiiiiiLu (za::zt))) (by rw[←hz]; exact (ste (k:=1) (qf9_ rwf_iiiiiiLu (0,0,0,0,0,0,nl0,0) (hr:=hy8) (i:=(x4).toNat) (j:=7) (l:=[(Value.int .u64 y14_)]) ((y8_.1),(y8_.2.1),(y8_.2.2.1),(y8_.2.2.2.1),(y8_.2.2.2.2.1),(y8_.2.2.2.2.2.1),(y8_.2.2.2.2.2.2.1),y14_) (Nat.add ((x4).toNat*8) 7) rfl (hy7) (Nat.le_of_ble_eq_true rfl) rfl)).q) <|
       ww (qb_ rwf_iiiiiiLu (za::zt) 46) <|
       ee) (by kernel_rfl)
     ·rw[if_neg hy11] at h
      obtain rfl:=oI h
      exact runC2 hm (kW [1,2,7,8] [(0,0,true)] 1 0) (k0 <|
       k3 <|
       k6 <|
       zz 27 (xeF hy11) <|
       ww (qb_ rwf_iiiiiiLu (x2a::x2t) 46) <|
       ee) (by kernel_rfl)
    ·rw[if_neg hy5] at h
     obtain rfl:=oI h
     exact runC2 hm (kW [7] [(0,0,true)] 1 0) (k0 <|
      k3 <|
      zz 14 (xbF hy5) <|
      ww (qb_ rwf_iiiiiiLu (x2a::x2t) 46) <|
      ee) (by kernel_rfl)
   ·rw[if_neg hy3] at h
    obtain rfl:=oI h
    exact runC2 hm (kW [7] [(0,0,true)] 1 0) (k0 <|
     zz 10 (xbF hy3) <|
     ww (qb_ rwf_iiiiiiLu (x2a::x2t) 46) <|
     ee) (by kernel_rfl)
  ·rw[if_neg hy1] at h
   obtain rfl:=oI h
   exact runC2 hm (kW [7] [(0,0,true)] 1 0) (zz 5 (xdF hy1) <|
    ww (qb_ rwf_iiiiiiLu (x2a::x2t) 46) <|
    ee) (by kernel_rfl)
theorem qd2_ (n:Nat){rnd:Option Nat}(x0 x1:Int)(x3:Nat)(st:List R8×Int)(r:List R8×Nat)(h:qbh_ n x0 x1 x3 st=some r):qqs_ rnd x0 x1 x3 st r:=
 CG.iter (b:=qp_ P 18 [false,false,true,false,true,true]) (by kernel_rfl) (body:=qbg_ n x0 x1 x3) (S:=qfn_ x0 x1 x3) (X:=qx_ x0 x1 x3)
  (fun s s' h=>qj2_ n x0 x1 x3 s (.inl s') h)
  (fun s r h=>qj2_ n x0 x1 x3 s (.inr r) h)
  (fun r=>by intro hx; cases hx) h
def qdj_ (n:Nat)(a0:W8)(a1 a2:Int):Option (W8):=
 match qb2_ n a0 with
 | none=>none
 | some (.inl _)=>
  (qbh_ n a1 a2 0 (([]:List R8),0)).bind fun t=>match t with
  | (c2_0,c2_1)=>
   match c2_0 with
   | []=>
    some (wl0:W8)
   | c2_0a::c2_0t=>
    if c2_1=(c2_0a::c2_0t).length then
     if hc4:(c2_0a::c2_0t).length≤9223372036854775807 then
      some (frzR qc_ (c2_0a::c2_0t) hc4)
     else none
    else none
 | some (.inr c1_)=>
  match c1_ with
  | []=>
   none
  | c1_a::c1_t=>
   (qbh_ n a1 a2 (((c1_a::c1_t)).length) ((c1_a::c1_t),0)).bind fun t=>match t with
   | (c2_0,c2_1)=>
    match c2_0 with
    | []=>
     some (wl0:W8)
    | c2_0a::c2_0t=>
     if c2_1=(c2_0a::c2_0t).length then
      if hc4:(c2_0a::c2_0t).length≤9223372036854775807 then
       some (frzR qc_ (c2_0a::c2_0t) hc4)
      else none
     else none
theorem qjp_ (n:Nat)(a0:W8)(a1 a2:Int)(r:W8)(h:qdj_ n a0 a1 a2=some r):qsn_ a0 a1 a2 r:=by
 unfold qdj_ at h
 rcases hc1:qb2_ n a0 with _ | (⟨⟩ | c1_)
 ·rw[hc1] at h; cases h
 ·rw[hc1] at h
  dsimp only at h
  obtain⟨⟨c2_0,c2_1⟩,hc2,h⟩:=oB h
  dsimp only at h
  have k0:=fun {A L l} (k:PL A L l)=>yy 4 (.call (qf8_ a0 (.inl ()) [] [])) <|
   ww (qep_ n a0 (.inl ()) hc1) <|
   k
  cases c2_0 with
  | nil=>
   dsimp only at h
   obtain rfl:=oI h
   exact runF2 hm ⟨[6],[],0,0,[],true,[],[],[6]⟩ (k0 <|
    ww (qd2_ n (rnd:=none) a1 a2 0 (([]:List R8),0) (([]:List R8),c2_1) hc2) <|
    ll 10 ⟨(kW [1,2,7,8] [] 1 0),(qx_ a1 a2 0 (([]:List R8),c2_1)).1,(qx_ a1 a2 0 (([]:List R8),c2_1)).2⟩ <|
    ee) (by kernel_rfl)
  | cons c2_0a c2_0t=>
   dsimp only at h
   obtain⟨hc3,h⟩:=gd h
   obtain⟨hc4,h⟩:=gdD h
   obtain rfl:=oI h
   subst hc3
   exact runF2 hm ⟨[6],[],0,0,[(0,Nat.add (2*codL (rows rw_iiiiiiLu (c2_0a::c2_0t))+1) 64)],true,[],[],[]⟩ (k0 <|
    ww (qd2_ n (rnd:=none) a1 a2 0 (([]:List R8),0) ((c2_0a::c2_0t),(((c2_0a::c2_0t)).length)) hc2) <|
    ll 10 ⟨(kW [1,2,7,8] [] 1 0),(qx_ a1 a2 0 ((c2_0a::c2_0t),(((c2_0a::c2_0t)).length))).1,(qx_ a1 a2 0 ((c2_0a::c2_0t),(((c2_0a::c2_0t)).length))).2⟩ <|
    ww (qf5_ ql_ q2_ qc_ (c2_0a::c2_0t)) <|
    ee) (by kernel_rfl)
 ·rw[hc1] at h
  dsimp only at h
  cases c1_ with
  | nil=>
   dsimp only at h
   cases h
  | cons c1_a c1_t=>
   dsimp only at h
   obtain⟨⟨c2_0,c2_1⟩,hc2,h⟩:=oB h
   dsimp only at h
   have k0:=fun {A L l} (k:PL A L l)=>yy 4 (.call (qf8_ a0 (.inr (c1_a::c1_t)) [] [(0,0,true)])) <|
    ww (qep_ n a0 (.inr (c1_a::c1_t)) hc1) <|
    ww (qb_ rwf_iiiiiiLu (c1_a::c1_t) 46) <|
    k
   cases c2_0 with
   | nil=>
    dsimp only at h
    obtain rfl:=oI h
    exact runF2 hm ⟨[6],[],0,0,[],true,[],[],[6]⟩ (k0 <|
     ww (qd2_ n (rnd:=none) a1 a2 (((c1_a::c1_t)).length) ((c1_a::c1_t),0) (([]:List R8),c2_1) hc2) <|
     ww (qb_ rwf_iiiiiiLu (c1_a::c1_t) 46) <|
     ll 10 ⟨(kW [1,2,7,8] [(0,0,true)] 1 0),(qx_ a1 a2 (((c1_a::c1_t)).length) (([]:List R8),c2_1)).1,(qx_ a1 a2 (((c1_a::c1_t)).length) (([]:List R8),c2_1)).2⟩ <|
     ee) (by kernel_rfl)
   | cons c2_0a c2_0t=>
    dsimp only at h
    obtain⟨hc3,h⟩:=gd h
    obtain⟨hc4,h⟩:=gdD h
    obtain rfl:=oI h
    subst hc3
    exact runF2 hm ⟨[6],[],0,0,[(0,Nat.add (2*codL (rows rw_iiiiiiLu (c2_0a::c2_0t))+1) 64)],true,[],[],[]⟩ (k0 <|
     ww (qd2_ n (rnd:=none) a1 a2 (((c1_a::c1_t)).length) ((c1_a::c1_t),0) ((c2_0a::c2_0t),(((c2_0a::c2_0t)).length)) hc2) <|
     ww (qb_ rwf_iiiiiiLu (c1_a::c1_t) 46) <|
     ll 10 ⟨(kW [1,2,7,8] [(0,0,true)] 1 0),(qx_ a1 a2 (((c1_a::c1_t)).length) ((c2_0a::c2_0t),(((c2_0a::c2_0t)).length))).1,(qx_ a1 a2 (((c1_a::c1_t)).length) ((c2_0a::c2_0t),(((c2_0a::c2_0t)).length))).2⟩ <|
     ww (qf5_ ql_ q2_ qc_ (c2_0a::c2_0t)) <|
     ee) (by kernel_rfl)

def quz_ (a0:W8)(r:Int):Value:=match r with
 | o0=>(Value.int .u64 o0)
def qu0_ (a0:W8)(r:Int):AH:=match r with
 | o0=>⟨sB [],0,0⟩
abbrev q1q_ (a0:W8)(r:Int):Prop:=Gv P (.func 19) [(wlV a0)] ⟨sB [],0,0⟩ (quz_ a0 r) (qu0_ a0 r)
abbrev qu1_ (a0:W8)(r:Int)(ins outs:BL):CallA:=⟨0,ins,quz_ a0 r,qu0_ a0 r,outs⟩
def qht_ (n:Nat)(a0:W8):Option (Int):=
 (q7_ n a0).bind fun c1_=>
 if c1_=0 then
  (qdx_ n a0 0 (((a0).l.length:Nat):Int)).bind fun _=>
  (qcc_ n a0 0 (((a0).l.length:Nat):Int)).bind fun c4_=>
  some c4_
 else
  some 0
theorem qqa_ (n:Nat)(a0:W8)(r:Int)(h:qht_ n a0=some r):q1q_ a0 r:=by
 unfold qht_ at h
 obtain⟨c1_,hc1,h⟩:=oB h
 have k0:=fun {A L l} (k:PL A L l)=>yy 5 (.call (qft_ a0 c1_ [] [])) <|
  ww (qc8_ n a0 c1_ hc1) <|
  k
 by_cases hc2:c1_=0
 ·rw[if_pos hc2] at h
  obtain⟨_,hc3,h⟩:=oB h
  obtain⟨c4_,hc4,h⟩:=oB h
  obtain rfl:=oI h
  exact runF2 hm (kW [2] [] 0 0) (k0 <|
   zz 6 (xnF hc2) <|
   yy 12 (.call (qi8_ a0 0 (((a0).l.length:Nat):Int) () [] (iD 3))) <|
   ww (qgs_ n a0 0 (((a0).l.length:Nat):Int) () hc3) <|
   yy 13 (.call (qhd_ a0 0 (((a0).l.length:Nat):Int) c4_ (iD 3) (iD 3))) <|
   ww (qfv_ n a0 0 (((a0).l.length:Nat):Int) c4_ hc4) <|
   ee) (by kernel_rfl)
 ·rw[if_neg hc2] at h
  obtain rfl:=oI h
  exact runF2 hm (kW [2] [] 0 0) (k0 <|
   zz 6 (xnT hc2) <|
   ee) (by kernel_rfl)

def qlz_ (a0:W8)(r:Int):Value:=match r with
 | o0=>(Value.int .u64 o0)
def ql0_ (a0:W8)(r:Int):AH:=match r with
 | o0=>⟨sB [],0,0⟩
abbrev qso_ (a0:W8)(r:Int):Prop:=Gv P (.func 20) [(wlV a0)] ⟨sB [],0,0⟩ (qlz_ a0 r) (ql0_ a0 r)
abbrev ql1_ (a0:W8)(r:Int)(ins outs:BL):CallA:=⟨0,ins,qlz_ a0 r,ql0_ a0 r,outs⟩
def qdk_ (n:Nat)(a0:W8):Option (Int):=
 (qe_ n a0).bind fun c1_=>
 if c1_=0 then
  (qdi_ n a0).bind fun c3_=>
  some c3_
 else
  some 0
theorem qjq_ (n:Nat)(a0:W8)(r:Int)(h:qdk_ n a0=some r):qso_ a0 r:=by
 unfold qdk_ at h
 obtain⟨c1_,hc1,h⟩:=oB h
 have k0:=fun {A L l} (k:PL A L l)=>yy 5 (.call (q1_ a0 c1_ [] [])) <|
  ww (qw_ n a0 c1_ hc1) <|
  k
 by_cases hc2:c1_=0
 ·rw[if_pos hc2] at h
  obtain⟨c3_,hc3,h⟩:=oB h
  obtain rfl:=oI h
  exact runF2 hm (kW [2] [] 0 0) (k0 <|
   zz 6 (xnF hc2) <|
   yy 10 (.call (qlm_ a0 c3_ [] [])) <|
   ww (qjg_ n a0 c3_ hc3) <|
   ee) (by kernel_rfl)
 ·rw[if_neg hc2] at h
  obtain rfl:=oI h
  exact runF2 hm (kW [2] [] 0 0) (k0 <|
   zz 6 (xnT hc2) <|
   ee) (by kernel_rfl)

def qh9_ (g2 g4 g5:Int):List Value:=[(wlV wA),(wlV wB),(i6 g2),(wlV wC),(i6 g4),(i6 g5)]
def qod_ (g2 g4 g5:Int)(r:Unit):Value:=match r with
 | _=>(bO true)
def qoe_ (g2 g4 g5:Int)(r:Unit):AH:=match r with
 | _=>⟨sB [],0,0⟩
abbrev qof_ (g2 g4 g5:Int)(r:Unit):Prop:=Gv P (.func 3) (qh9_ g2 g4 g5) ⟨sB [],0,0⟩ (qod_ g2 g4 g5 r) (qoe_ g2 g4 g5 r)
def qm0_ (x0 x1:W8)(x2:Int)(x3:WL rw_iiiii)(x4 x5:Int)(x6:W8)(x7:NL)(x8:Int)(x9:W8)(x10:NL)(x11 x12:Int)(x13:Bool)(st:Unit):XSt:=(sT 118 [(0,(wlV x0)),(1,(wlV x1)),(2,(i6 x2)),(3,(wlV x3)),(4,(i6 x4)),(5,(i6 x5)),(13,(wlV x6)),(14,(nlV x7)),(15,(i6 x8)),(16,(wlV x9)),(17,(nlV x10)),(18,(i6 x11)),(19,(i6 x12)),(66,(bO x13))],[],⟨sB [],0,0⟩)
def qt_ (x0 x1:W8)(x2:Int)(x3:WL rw_iiiii)(x4 x5:Int)(x6:W8)(x7:NL)(x8:Int)(x9:W8)(x10:NL)(x11 x12:Int)(x13:Bool)(r:Unit):Ex×XSt:=match r with
 | _=>(.normal,(sT 118 [(0,(wlV x0)),(1,(wlV x1)),(2,(i6 x2)),(3,(wlV x3)),(4,(i6 x4)),(5,(i6 x5)),(13,(wlV x6)),(14,(nlV x7)),(15,(i6 x8)),(16,(wlV x9)),(17,(nlV x10)),(18,(i6 x11)),(19,(i6 x12))],[],⟨sB [],0,0⟩))
abbrev qm1_ (rd:Option Nat)(x0 x1:W8)(x2:Int)(x3:WL rw_iiiii)(x4 x5:Int)(x6:W8)(x7:NL)(x8:Int)(x9:W8)(x10:NL)(x11 x12:Int)(x13:Bool)(st r:Unit):Prop:=CG P rd (fnN P 3) 0 (qp_ P 3 [true,false,false,true,false,false,true,false,true,true,true,true,true]) (qm0_ x0 x1 x2 x3 x4 x5 x6 x7 x8 x9 x10 x11 x12 x13 st) (qt_ x0 x1 x2 x3 x4 x5 x6 x7 x8 x9 x10 x11 x12 x13 r)
def qbl_ (n:Nat)(x0 x1:W8)(x2:Int)(x3:WL rw_iiiii)(x4 x5:Int)(x6:W8)(x7:NL)(x8:Int)(x9:W8)(x10:NL)(x11 x12:Int)(x13:Bool)(st:Unit):Option (Unit):=
 if x13=true then
  none
 else
  some ()
theorem qcr_ (n:Nat){rnd:Option Nat}(x0 x1:W8)(x2:Int)(x3:WL rw_iiiii)(x4 x5:Int)(x6:W8)(x7:NL)(x8:Int)(x9:W8)(x10:NL)(x11 x12:Int)(x13:Bool)(st r:Unit)(h:qbl_ n x0 x1 x2 x3 x4 x5 x6 x7 x8 x9 x10 x11 x12 x13 st=some r):qm1_ rnd x0 x1 x2 x3 x4 x5 x6 x7 x8 x9 x10 x11 x12 x13 st r:=by
 unfold qbl_ at h
 by_cases hy1:x13=true
 ·rw[if_pos hy1] at h
  cases h
 ·rw[if_neg hy1] at h
  obtain rfl:=oI h
  exact runC2 hm (kW [0,1,2,3,4,5,13,14,15,16,17,18,19] [] 0 0) (zz 0 (xbF hy1) <|
   ee) (by kernel_rfl)
def qm2_ (x0 x1:W8)(x2:Int)(x3:WL rw_iiiii)(x4 x5:Int)(x6:W8)(x7:NL)(x8:Int)(x9:W8)(x10:NL)(x11 x12:Int)(st:Unit):XSt:=(sT 118 [(0,(wlV x0)),(1,(wlV x1)),(2,(i6 x2)),(3,(wlV x3)),(4,(i6 x4)),(5,(i6 x5)),(13,(wlV x6)),(14,(nlV x7)),(15,(i6 x8)),(16,(wlV x9)),(17,(nlV x10)),(18,(i6 x11)),(19,(i6 x12))],[],⟨sB [],0,0⟩)
def qe7_ (x0 x1:W8)(x2:Int)(x3:WL rw_iiiii)(x4 x5:Int)(x6:W8)(x7:NL)(x8:Int)(x9:W8)(x10:NL)(x11 x12:Int)(r:Unit):Ex×XSt:=match r with
 | _=>(.normal,(sT 118 [(0,(wlV x0)),(1,(wlV x1)),(2,(i6 x2)),(3,(wlV x3)),(4,(i6 x4)),(5,(i6 x5)),(13,(wlV x6)),(14,(nlV x7)),(15,(i6 x8)),(16,(wlV x9)),(17,(nlV x10)),(18,(i6 x11)),(19,(i6 (w64 (x12+1))))],[],⟨sB [],0,0⟩))
abbrev qm3_ (rd:Option Nat)(x0 x1:W8)(x2:Int)(x3:WL rw_iiiii)(x4 x5:Int)(x6:W8)(x7:NL)(x8:Int)(x9:W8)(x10:NL)(x11 x12:Int)(st r:Unit):Prop:=CG P rd (fnN P 3) 0 (qp_ P 3 [true,false,false,true,false,true,true,true,true,true]) (qm2_ x0 x1 x2 x3 x4 x5 x6 x7 x8 x9 x10 x11 x12 st) (qe7_ x0 x1 x2 x3 x4 x5 x6 x7 x8 x9 x10 x11 x12 r)
def qck_ (n:Nat)(x0 x1:W8)(x2:Int)(x3:WL rw_iiiii)(x4 x5:Int)(x6:W8)(x7:NL)(x8:Int)(x9:W8)(x10:NL)(x11 x12:Int)(st:Unit):Option (Unit):=
 if 0≤x12∧x12<(((x3).l.length:Nat):Int) then
  ((some (((x3).l).getD (x12).toNat (0,0,0,0,0)))).bind fun y2_=>
  (qdy_ n x0 x2 (y2_.1) (y2_.2.1) (y2_.2.2.1) (y2_.2.2.2.1) (y2_.2.2.2.2)).bind fun y3_=>
  (qb1_ n x0 x2 (y2_.1) (y2_.2.1) (y2_.2.2.1) (y2_.2.2.2.1) (y2_.2.2.2.2)).bind fun y4_=>
  if y3_=true then
   if y4_=true then
    (qbl_ n x0 x1 x2 x3 x4 x5 x6 x7 x8 x9 x10 x11 x12 false ()).bind fun _=>
    some ()
   else
    (qbl_ n x0 x1 x2 x3 x4 x5 x6 x7 x8 x9 x10 x11 x12 true ()).bind fun _=>
    some ()
  else
   if y4_=true then
    (qbl_ n x0 x1 x2 x3 x4 x5 x6 x7 x8 x9 x10 x11 x12 true ()).bind fun _=>
    some ()
   else
    (qbl_ n x0 x1 x2 x3 x4 x5 x6 x7 x8 x9 x10 x11 x12 false ()).bind fun _=>
    some ()
 else none
theorem qk4_ (n:Nat){rnd:Option Nat}(x0 x1:W8)(x2:Int)(x3:WL rw_iiiii)(x4 x5:Int)(x6:W8)(x7:NL)(x8:Int)(x9:W8)(x10:NL)(x11 x12:Int)(st r:Unit)(h:qck_ n x0 x1 x2 x3 x4 x5 x6 x7 x8 x9 x10 x11 x12 st=some r):qm3_ rnd x0 x1 x2 x3 x4 x5 x6 x7 x8 x9 x10 x11 x12 st r:=by
 unfold qck_ at h
 obtain⟨hy1,h⟩:=gd h
 obtain⟨y2_,hy2,h⟩:=oB h
 obtain⟨y3_,hy3,h⟩:=oB h
 obtain⟨y4_,hy4,h⟩:=oB h
 have k0:=fun {A L l} (k:PL A L l)=>zz 7 (xk14 (x3).num (x3).off (x3).cap hy1) <|
  zz 8 (lk15 hy2 (qj_ hy1)) <|
  yy 9 (.call (qjb_ x0 x2 (y2_.1) (y2_.2.1) (y2_.2.2.1) (y2_.2.2.2.1) (y2_.2.2.2.2) y3_ [] [])) <|
  ww (qgu_ n x0 x2 (y2_.1) (y2_.2.1) (y2_.2.2.1) (y2_.2.2.2.1) (y2_.2.2.2.2) y3_ hy3) <|
  zz 14 (xk14 (x3).num (x3).off (x3).cap hy1) <|
  zz 15 (lk15 hy2 (qj_ hy1)) <|
  yy 16 (.call (qhz_ x0 x2 (y2_.1) (y2_.2.1) (y2_.2.2.1) (y2_.2.2.2.1) (y2_.2.2.2.2) y4_ [] [])) <|
  ww (qgk_ n x0 x2 (y2_.1) (y2_.2.1) (y2_.2.2.1) (y2_.2.2.2.1) (y2_.2.2.2.2) y4_ hy4) <|
  k
 by_cases hy5:y3_=true
 ·rw[if_pos hy5] at h
  by_cases hy6:y4_=true
  ·rw[if_pos hy6] at h
   obtain⟨_,hy7,h⟩:=oB h
   obtain rfl:=oI h
   exact runC2 hm (kW [0,1,2,3,4,5,13,14,15,16,17,18,19] [] 0 0) (k0 <|
    yy 17 (vf) <|
    ww (p:=(Value.bool (!(y3_ == y4_)))=(Value.bool false)) (vNeB hy5 hy6) <|
    ww (qcr_ n (rnd:=rnd) x0 x1 x2 x3 x4 x5 x6 x7 x8 x9 x10 x11 x12 false () () hy7) <|
    ll 18 ⟨(kW [0,1,2,3,4,5,13,14,15,16,17,18,19,66] [] 0 0),(qt_ x0 x1 x2 x3 x4 x5 x6 x7 x8 x9 x10 x11 x12 false ()).1,(qt_ x0 x1 x2 x3 x4 x5 x6 x7 x8 x9 x10 x11 x12 false ()).2⟩ <|
    ee) (by kernel_rfl)
  ·rw[if_neg hy6] at h
   obtain⟨_,hy7,h⟩:=oB h
   obtain rfl:=oI h
   exact runC2 hm (kW [0,1,2,3,4,5,13,14,15,16,17,18,19] [] 0 0) (k0 <|
    yy 17 (vt) <|
    ww (p:=(Value.bool (!(y3_ == y4_)))=(Value.bool true)) (vNeB hy5 (Bool.eq_false_iff.2 hy6)) <|
    ww (qcr_ n (rnd:=rnd) x0 x1 x2 x3 x4 x5 x6 x7 x8 x9 x10 x11 x12 true () () hy7) <|
    ll 18 ⟨(kW [0,1,2,3,4,5,13,14,15,16,17,18,19,66] [] 0 0),(qt_ x0 x1 x2 x3 x4 x5 x6 x7 x8 x9 x10 x11 x12 true ()).1,(qt_ x0 x1 x2 x3 x4 x5 x6 x7 x8 x9 x10 x11 x12 true ()).2⟩ <|
    ee) (by kernel_rfl)
 ·rw[if_neg hy5] at h
  by_cases hy6:y4_=true
  ·rw[if_pos hy6] at h
   obtain⟨_,hy7,h⟩:=oB h
   obtain rfl:=oI h
   exact runC2 hm (kW [0,1,2,3,4,5,13,14,15,16,17,18,19] [] 0 0) (k0 <|
    yy 17 (vt) <|
    ww (p:=(Value.bool (!(y3_ == y4_)))=(Value.bool true)) (vNeB (Bool.eq_false_iff.2 hy5) hy6) <|
    ww (qcr_ n (rnd:=rnd) x0 x1 x2 x3 x4 x5 x6 x7 x8 x9 x10 x11 x12 true () () hy7) <|
    ll 18 ⟨(kW [0,1,2,3,4,5,13,14,15,16,17,18,19,66] [] 0 0),(qt_ x0 x1 x2 x3 x4 x5 x6 x7 x8 x9 x10 x11 x12 true ()).1,(qt_ x0 x1 x2 x3 x4 x5 x6 x7 x8 x9 x10 x11 x12 true ()).2⟩ <|
    ee) (by kernel_rfl)
  ·rw[if_neg hy6] at h
   obtain⟨_,hy7,h⟩:=oB h
   obtain rfl:=oI h
   exact runC2 hm (kW [0,1,2,3,4,5,13,14,15,16,17,18,19] [] 0 0) (k0 <|
    yy 17 (vf) <|
    ww (p:=(Value.bool (!(y3_ == y4_)))=(Value.bool false)) (vNeB (Bool.eq_false_iff.2 hy5) (Bool.eq_false_iff.2 hy6)) <|
    ww (qcr_ n (rnd:=rnd) x0 x1 x2 x3 x4 x5 x6 x7 x8 x9 x10 x11 x12 false () () hy7) <|
    ll 18 ⟨(kW [0,1,2,3,4,5,13,14,15,16,17,18,19,66] [] 0 0),(qt_ x0 x1 x2 x3 x4 x5 x6 x7 x8 x9 x10 x11 x12 false ()).1,(qt_ x0 x1 x2 x3 x4 x5 x6 x7 x8 x9 x10 x11 x12 false ()).2⟩ <|
    ee) (by kernel_rfl)
def qdd_ (x0 x1:W8)(x2:Int)(x3:WL rw_iiiii)(x4 x5:Int)(x6:W8)(x7:NL)(x8:Int)(x9:W8)(x10:NL)(x11 st:Int):XSt:=match st with
 | x12=>(sT 118 [(0,(wlV x0)),(1,(wlV x1)),(2,(i6 x2)),(3,(wlV x3)),(4,(i6 x4)),(5,(i6 x5)),(13,(wlV x6)),(14,(nlV x7)),(15,(i6 x8)),(16,(wlV x9)),(17,(nlV x10)),(18,(i6 x11)),(19,(i6 x12))],[],⟨sB [],0,0⟩)
def qcl_ (x0 x1:W8)(x2:Int)(x3:WL rw_iiiii)(x4 x5:Int)(x6:W8)(x7:NL)(x8:Int)(x9:W8)(x10:NL)(x11:Int)(r:Unit):Ex×XSt:=match r with
 | _=>(.exit 0,(sT 118 [(0,(wlV x0)),(1,(wlV x1)),(2,(i6 x2)),(4,(i6 x4)),(5,(i6 x5)),(13,(wlV x6)),(14,(nlV x7)),(15,(i6 x8)),(16,(wlV x9)),(17,(nlV x10)),(18,(i6 x11))],[],⟨sB [],0,0⟩))
abbrev qm4_ (rd:Option Nat)(x0 x1:W8)(x2:Int)(x3:WL rw_iiiii)(x4 x5:Int)(x6:W8)(x7:NL)(x8:Int)(x9:W8)(x10:NL)(x11 st:Int)(r:Unit):Prop:=CG P rd (fnN P 3) 0 (qp_ P 3 [false,true,false,true,true,true,true,true]) (qdd_ x0 x1 x2 x3 x4 x5 x6 x7 x8 x9 x10 x11 st) (qcl_ x0 x1 x2 x3 x4 x5 x6 x7 x8 x9 x10 x11 r)
def q3_ (n:Nat)(x0 x1:W8)(x2:Int)(x3:WL rw_iiiii)(x4 x5:Int)(x6:W8)(x7:NL)(x8:Int)(x9:W8)(x10:NL)(x11 st:Int):Option ((Int) ⊕ (Unit)):=match st with
 | x12=>
  if x12<(((x3).l.length:Nat):Int) then
   (qck_ n x0 x1 x2 x3 x4 x5 x6 x7 x8 x9 x10 x11 x12 ()).bind fun _=>
   some (.inl (w64 (x12+1)))
  else
   some (.inr ())
def qe8_ (n:Nat)(x0 x1:W8)(x2:Int)(x3:WL rw_iiiii)(x4 x5:Int)(x6:W8)(x7:NL)(x8:Int)(x9:W8)(x10:NL)(x11 st:Int):Option (Unit):=iterM (q3_ n x0 x1 x2 x3 x4 x5 x6 x7 x8 x9 x10 x11) n st
theorem qhk_ (n:Nat){rnd:Option Nat}(x0 x1:W8)(x2:Int)(x3:WL rw_iiiii)(x4 x5:Int)(x6:W8)(x7:NL)(x8:Int)(x9:W8)(x10:NL)(x11 x12:Int)(o:(Int) ⊕ (Unit))(h:q3_ n x0 x1 x2 x3 x4 x5 x6 x7 x8 x9 x10 x11 x12=some o):CG P rnd (fnN P 3) 0 (qp_ P 3 [false,false,true,false,true,true,true,true,true]) (qdd_ x0 x1 x2 x3 x4 x5 x6 x7 x8 x9 x10 x11 x12) (Sum.elim (fun s=>(.normal,qdd_ x0 x1 x2 x3 x4 x5 x6 x7 x8 x9 x10 x11 s)) (fun r=>qcl_ x0 x1 x2 x3 x4 x5 x6 x7 x8 x9 x10 x11 r) o):=by
 unfold q3_ at h
 dsimp only at h
 by_cases hy1:x12<(((x3).l.length:Nat):Int)
 ·rw[if_pos hy1] at h
  obtain⟨_,hy2,h⟩:=oB h
  obtain rfl:=oI h
  exact runC2 hm (kW [0,1,2,3,4,5,13,14,15,16,17,18,19] [] 0 0) (zz 5 (xdT hy1) <|
   ww (qk4_ n (rnd:=rnd) x0 x1 x2 x3 x4 x5 x6 x7 x8 x9 x10 x11 x12 () () hy2) <|
   ll 7 ⟨(kW [0,1,2,3,4,5,13,14,15,16,17,18,19] [] 0 0),(qe7_ x0 x1 x2 x3 x4 x5 x6 x7 x8 x9 x10 x11 x12 ()).1,(qe7_ x0 x1 x2 x3 x4 x5 x6 x7 x8 x9 x10 x11 x12 ()).2⟩ <|
   ee) (by kernel_rfl)
 ·rw[if_neg hy1] at h
  obtain rfl:=oI h
  exact runC2 hm (kW [0,1,2,4,5,13,14,15,16,17,18] [] 0 0) (zz 5 (xdF hy1) <|
   ee) (by kernel_rfl)
theorem qk5_ (n:Nat){rnd:Option Nat}(x0 x1:W8)(x2:Int)(x3:WL rw_iiiii)(x4 x5:Int)(x6:W8)(x7:NL)(x8:Int)(x9:W8)(x10:NL)(x11 st:Int)(r:Unit)(h:qe8_ n x0 x1 x2 x3 x4 x5 x6 x7 x8 x9 x10 x11 st=some r):qm4_ rnd x0 x1 x2 x3 x4 x5 x6 x7 x8 x9 x10 x11 st r:=
 CG.iter (b:=qp_ P 3 [false,false,true,false,true,true,true,true,true]) (by kernel_rfl) (body:=q3_ n x0 x1 x2 x3 x4 x5 x6 x7 x8 x9 x10 x11) (S:=qdd_ x0 x1 x2 x3 x4 x5 x6 x7 x8 x9 x10 x11) (X:=qcl_ x0 x1 x2 x3 x4 x5 x6 x7 x8 x9 x10 x11)
  (fun s s' h=>qhk_ n x0 x1 x2 x3 x4 x5 x6 x7 x8 x9 x10 x11 s (.inl s') h)
  (fun s r h=>qhk_ n x0 x1 x2 x3 x4 x5 x6 x7 x8 x9 x10 x11 s (.inr r) h)
  (fun r=>by intro hx; cases hx) h
def ql9_ (x10_0 x10_1:W8)(x10_2 x10_3 x10_4:Int)(x10_5:W8)(x10_6:NL)(x10_7:Int)(x10_8:W8)(x10_9:NL)(x10_10:Int)(st:Unit):XSt:=(sT 118 [(0,(wlV x10_0)),(1,(wlV x10_1)),(2,(i6 x10_2)),(4,(i6 x10_3)),(5,(i6 x10_4)),(13,(wlV x10_5)),(14,(nlV x10_6)),(15,(i6 x10_7)),(16,(wlV x10_8)),(17,(nlV x10_9)),(18,(i6 x10_10))],[],⟨sB [],0,0⟩)
def qer_ (x10_0 x10_1:W8)(x10_2 x10_3 x10_4:Int)(x10_5:W8)(x10_6:NL)(x10_7:Int)(x10_8:W8)(x10_9:NL)(x10_10:Int)(r:Unit):Ex×XSt:=match r with
 | _=>(.ret,(sT 118 [(12,(bO true))],[],⟨sB [],0,0⟩))
abbrev qma_ (rd:Option Nat)(x10_0 x10_1:W8)(x10_2 x10_3 x10_4:Int)(x10_5:W8)(x10_6:NL)(x10_7:Int)(x10_8:W8)(x10_9:NL)(x10_10:Int)(st r:Unit):Prop:=CG P rd (fnN P 3) 0 (qp_ P 3 [true,true,true,true,true,true]) (ql9_ x10_0 x10_1 x10_2 x10_3 x10_4 x10_5 x10_6 x10_7 x10_8 x10_9 x10_10 st) (qer_ x10_0 x10_1 x10_2 x10_3 x10_4 x10_5 x10_6 x10_7 x10_8 x10_9 x10_10 r)
def qca_ (n:Nat)(x10_0 x10_1:W8)(x10_2 x10_3 x10_4:Int)(x10_5:W8)(x10_6:NL)(x10_7:Int)(x10_8:W8)(x10_9:NL)(x10_10:Int)(st:Unit):Option (Unit):=
 (qbi_ n x10_5 x10_8).bind fun y10_1_=>
 if y10_1_=true then
  (qd6_ n x10_6 x10_9).bind fun y10_3_=>
  if y10_3_=true then
   if x10_7=x10_10 then
    (qjm_ n x10_0 x10_2 x10_1).bind fun y10_6_=>
    (qdh_ n x10_0 x10_2 x10_1).bind fun y10_7_=>
    if y10_6_=true then
     if y10_7_=true then
      (qgz_ n x10_0 x10_3).bind fun y10_10_=>
      (qc3_ n x10_0 x10_3).bind fun y10_11_=>
      (qbi_ n y10_10_ y10_11_).bind fun y10_12_=>
      if y10_12_=true then
       (qhs_ n x10_0 x10_3 x10_4).bind fun y10_14_=>
       (qdj_ n x10_0 x10_3 x10_4).bind fun y10_15_=>
       (qbi_ n y10_14_ y10_15_).bind fun y10_16_=>
       if y10_16_=true then
        (qht_ n x10_0).bind fun y10_18_=>
        (qdk_ n x10_0).bind fun y10_19_=>
        if y10_18_=y10_19_ then
         some ()
        else
         none
       else
        none
      else
       none
     else
      none
    else
     if y10_7_=true then
      none
     else
      (qgz_ n x10_0 x10_3).bind fun y10_10_=>
      (qc3_ n x10_0 x10_3).bind fun y10_11_=>
      (qbi_ n y10_10_ y10_11_).bind fun y10_12_=>
      if y10_12_=true then
       (qhs_ n x10_0 x10_3 x10_4).bind fun y10_14_=>
       (qdj_ n x10_0 x10_3 x10_4).bind fun y10_15_=>
       (qbi_ n y10_14_ y10_15_).bind fun y10_16_=>
       if y10_16_=true then
        (qht_ n x10_0).bind fun y10_18_=>
        (qdk_ n x10_0).bind fun y10_19_=>
        if y10_18_=y10_19_ then
         some ()
        else
         none
       else
        none
      else
       none
   else
    none
  else
   none
 else
  none
theorem qj9_ (n:Nat){rnd:Option Nat}(x10_0 x10_1:W8)(x10_2 x10_3 x10_4:Int)(x10_5:W8)(x10_6:NL)(x10_7:Int)(x10_8:W8)(x10_9:NL)(x10_10:Int)(st r:Unit)(h:qca_ n x10_0 x10_1 x10_2 x10_3 x10_4 x10_5 x10_6 x10_7 x10_8 x10_9 x10_10 st=some r):qma_ rnd x10_0 x10_1 x10_2 x10_3 x10_4 x10_5 x10_6 x10_7 x10_8 x10_9 x10_10 st r:=by
 unfold qca_ at h
 obtain⟨y10_1_,hy10_1,h⟩:=oB h
 have k0:=fun {A L l} (k:PL A L l)=>yy 3 (.call (qef_ x10_5 x10_8 y10_1_ [] [])) <|
  ww (qdc_ n x10_5 x10_8 y10_1_ hy10_1) <|
  k
 by_cases hy10_2:y10_1_=true
 ·rw[if_pos hy10_2] at h
  obtain⟨y10_3_,hy10_3,h⟩:=oB h
  have k2:=fun {A L l} (k:PL A L l)=>zz 4 (xbT hy10_2) <|
   yy 7 (.call (qrw_ x10_6 x10_9 y10_3_ [] [])) <|
   ww (qo5_ n x10_6 x10_9 y10_3_ hy10_3) <|
   k
  by_cases hy10_4:y10_3_=true
  ·rw[if_pos hy10_4] at h
   have k5:=fun {A L l} (k:PL A L l)=>zz 9 (xbT hy10_4) <|
    k
   by_cases hy10_5:x10_7=x10_10
   ·rw[if_pos hy10_5] at h
    obtain⟨y10_6_,hy10_6,h⟩:=oB h
    obtain⟨y10_7_,hy10_7,h⟩:=oB h
    have k6:=fun {A L l} (k:PL A L l)=>zz 12 (xeT hy10_5) <|
     yy 18 (.call (q1m_ x10_0 x10_2 x10_1 y10_6_ [] [])) <|
     ww (qwy_ n x10_0 x10_2 x10_1 y10_6_ hy10_6) <|
     yy 22 (.call (qlj_ x10_0 x10_2 x10_1 y10_7_ [] [])) <|
     ww (qjd_ n x10_0 x10_2 x10_1 y10_7_ hy10_7) <|
     k
    by_cases hy10_8:y10_6_=true
    ·rw[if_pos hy10_8] at h
     by_cases hy10_9:y10_7_=true
     ·rw[if_pos hy10_9] at h
      obtain⟨y10_10_,hy10_10,h⟩:=oB h
      obtain⟨y10_11_,hy10_11,h⟩:=oB h
      obtain⟨y10_12_,hy10_12,h⟩:=oB h
      have k11:=fun {A L l} (k:PL A L l)=>yy 23 (vt) <|
       ww (p:=(Value.bool (y10_6_ == y10_7_))=(Value.bool true)) (vEqB hy10_8 hy10_9) <|
       yy 28 (.call (qs7_ x10_0 x10_3 y10_10_ [] [])) <|
       ww (qo9_ n x10_0 x10_3 y10_10_ hy10_10) <|
       yy 31 (.call (qk3_ x10_0 x10_3 y10_11_ [] [])) <|
       ww (qi2_ n x10_0 x10_3 y10_11_ hy10_11) <|
       yy 32 (.call (qef_ y10_10_ y10_11_ y10_12_ [] [])) <|
       ww (qdc_ n y10_10_ y10_11_ y10_12_ hy10_12) <|
       k
      by_cases hy10_13:y10_12_=true
      ·rw[if_pos hy10_13] at h
       obtain⟨y10_14_,hy10_14,h⟩:=oB h
       obtain⟨y10_15_,hy10_15,h⟩:=oB h
       obtain⟨y10_16_,hy10_16,h⟩:=oB h
       have k19:=fun {A L l} (k:PL A L l)=>zz 34 (xbT hy10_13) <|
        yy 38 (.call (quy_ x10_0 x10_3 x10_4 y10_14_ [] [])) <|
        ww (qp9_ n x10_0 x10_3 x10_4 y10_14_ hy10_14) <|
        yy 42 (.call (qly_ x10_0 x10_3 x10_4 y10_15_ [] [])) <|
        ww (qjp_ n x10_0 x10_3 x10_4 y10_15_ hy10_15) <|
        yy 43 (.call (qef_ y10_14_ y10_15_ y10_16_ [] [])) <|
        ww (qdc_ n y10_14_ y10_15_ y10_16_ hy10_16) <|
        k
       by_cases hy10_17:y10_16_=true
       ·rw[if_pos hy10_17] at h
        obtain⟨y10_18_,hy10_18,h⟩:=oB h
        obtain⟨y10_19_,hy10_19,h⟩:=oB h
        have k26:=fun {A L l} (k:PL A L l)=>zz 45 (xbT hy10_17) <|
         yy 47 (.call (qu1_ x10_0 y10_18_ [] [])) <|
         ww (qqa_ n x10_0 y10_18_ hy10_18) <|
         yy 49 (.call (ql1_ x10_0 y10_19_ [] [])) <|
         ww (qjq_ n x10_0 y10_19_ hy10_19) <|
         k
        by_cases hy10_20:y10_18_=y10_19_
        ·rw[if_pos hy10_20] at h
         obtain rfl:=oI h
         exact runC2 hm (kW [12] [] 0 0) (k0 <|
          k2 <|
          k5 <|
          k6 <|
          k11 <|
          k19 <|
          k26 <|
          zz 50 (xeT hy10_20) <|
          ee) (by kernel_rfl)
        ·rw[if_neg hy10_20] at h
         cases h
       ·rw[if_neg hy10_17] at h
        cases h
      ·rw[if_neg hy10_13] at h
       cases h
     ·rw[if_neg hy10_9] at h
      cases h
    ·rw[if_neg hy10_8] at h
     by_cases hy10_9:y10_7_=true
     ·rw[if_pos hy10_9] at h
      cases h
     ·rw[if_neg hy10_9] at h
      obtain⟨y10_10_,hy10_10,h⟩:=oB h
      obtain⟨y10_11_,hy10_11,h⟩:=oB h
      obtain⟨y10_12_,hy10_12,h⟩:=oB h
      have k11:=fun {A L l} (k:PL A L l)=>yy 23 (vt) <|
       ww (p:=(Value.bool (y10_6_ == y10_7_))=(Value.bool true)) (vEqB (Bool.eq_false_iff.2 hy10_8) (Bool.eq_false_iff.2 hy10_9)) <|
       yy 28 (.call (qs7_ x10_0 x10_3 y10_10_ [] [])) <|
       ww (qo9_ n x10_0 x10_3 y10_10_ hy10_10) <|
       yy 31 (.call (qk3_ x10_0 x10_3 y10_11_ [] [])) <|
       ww (qi2_ n x10_0 x10_3 y10_11_ hy10_11) <|
       yy 32 (.call (qef_ y10_10_ y10_11_ y10_12_ [] [])) <|
       ww (qdc_ n y10_10_ y10_11_ y10_12_ hy10_12) <|
       k
      by_cases hy10_13:y10_12_=true
      ·rw[if_pos hy10_13] at h
       obtain⟨y10_14_,hy10_14,h⟩:=oB h
       obtain⟨y10_15_,hy10_15,h⟩:=oB h
       obtain⟨y10_16_,hy10_16,h⟩:=oB h
       have k19:=fun {A L l} (k:PL A L l)=>zz 34 (xbT hy10_13) <|
        yy 38 (.call (quy_ x10_0 x10_3 x10_4 y10_14_ [] [])) <|
        ww (qp9_ n x10_0 x10_3 x10_4 y10_14_ hy10_14) <|
        yy 42 (.call (qly_ x10_0 x10_3 x10_4 y10_15_ [] [])) <|
        ww (qjp_ n x10_0 x10_3 x10_4 y10_15_ hy10_15) <|
        yy 43 (.call (qef_ y10_14_ y10_15_ y10_16_ [] [])) <|
        ww (qdc_ n y10_14_ y10_15_ y10_16_ hy10_16) <|
        k
       by_cases hy10_17:y10_16_=true
       ·rw[if_pos hy10_17] at h
        obtain⟨y10_18_,hy10_18,h⟩:=oB h
        obtain⟨y10_19_,hy10_19,h⟩:=oB h
        have k26:=fun {A L l} (k:PL A L l)=>zz 45 (xbT hy10_17) <|
         yy 47 (.call (qu1_ x10_0 y10_18_ [] [])) <|
         ww (qqa_ n x10_0 y10_18_ hy10_18) <|
         yy 49 (.call (ql1_ x10_0 y10_19_ [] [])) <|
         ww (qjq_ n x10_0 y10_19_ hy10_19) <|
         k
        by_cases hy10_20:y10_18_=y10_19_
        ·rw[if_pos hy10_20] at h
         obtain rfl:=oI h
         exact runC2 hm (kW [12] [] 0 0) (k0 <|
          k2 <|
          k5 <|
          k6 <|
          k11 <|
          k19 <|
          k26 <|
          zz 50 (xeT hy10_20) <|
          ee) (by kernel_rfl)
        ·rw[if_neg hy10_20] at h
         cases h
       ·rw[if_neg hy10_17] at h
        cases h
      ·rw[if_neg hy10_13] at h
       cases h
   ·rw[if_neg hy10_5] at h
    cases h
  ·rw[if_neg hy10_4] at h
   cases h
 ·rw[if_neg hy10_2] at h
  cases h
def qm5_ (x0 x1:W8)(x2:Int)(x3:WL rw_iiiii)(x4 x5:Int)(x6:W8)(x7:NL)(x8:Int)(x9:W8)(x10:NL)(x11:Int)(st:Unit):XSt:=(sT 118 [(0,(wlV x0)),(1,(wlV x1)),(2,(i6 x2)),(3,(wlV x3)),(4,(i6 x4)),(5,(i6 x5)),(13,(wlV x6)),(14,(nlV x7)),(15,(i6 x8)),(16,(wlV x9)),(17,(nlV x10)),(18,(i6 x11))],[],⟨sB [],0,0⟩)
def qe9_ (x0 x1:W8)(x2:Int)(x3:WL rw_iiiii)(x4 x5:Int)(x6:W8)(x7:NL)(x8:Int)(x9:W8)(x10:NL)(x11:Int)(r:Unit):Ex×XSt:=match r with
 | _=>(.ret,(sT 118 [(12,(bO true))],[],⟨sB [],0,0⟩))
abbrev qm6_ (rd:Option Nat)(x0 x1:W8)(x2:Int)(x3:WL rw_iiiii)(x4 x5:Int)(x6:W8)(x7:NL)(x8:Int)(x9:W8)(x10:NL)(x11:Int)(st r:Unit):Prop:=CG P rd (fnN P 3) 0 (qp_ P 3 [true,true,true,true,true]) (qm5_ x0 x1 x2 x3 x4 x5 x6 x7 x8 x9 x10 x11 st) (qe9_ x0 x1 x2 x3 x4 x5 x6 x7 x8 x9 x10 x11 r)
def qde_ (n:Nat)(x0 x1:W8)(x2:Int)(x3:WL rw_iiiii)(x4 x5:Int)(x6:W8)(x7:NL)(x8:Int)(x9:W8)(x10:NL)(x11:Int)(st:Unit):Option (Unit):=
 (qe8_ n x0 x1 x2 x3 x4 x5 x6 x7 x8 x9 x10 x11 0).bind fun _=>
 (qca_ n x0 x1 x2 x4 x5 x6 x7 x8 x9 x10 x11 ()).bind fun _=>
 some ()
theorem qk6_ (n:Nat){rnd:Option Nat}(x0 x1:W8)(x2:Int)(x3:WL rw_iiiii)(x4 x5:Int)(x6:W8)(x7:NL)(x8:Int)(x9:W8)(x10:NL)(x11:Int)(st r:Unit)(h:qde_ n x0 x1 x2 x3 x4 x5 x6 x7 x8 x9 x10 x11 st=some r):qm6_ rnd x0 x1 x2 x3 x4 x5 x6 x7 x8 x9 x10 x11 st r:=by
 unfold qde_ at h
 obtain⟨_,hy1,h⟩:=oB h
 obtain⟨_,hy2,h⟩:=oB h
 obtain rfl:=oI h
 exact runC2 hm (kW [12] [] 0 0) (ww (qk5_ n (rnd:=rnd) x0 x1 x2 x3 x4 x5 x6 x7 x8 x9 x10 x11 0 () hy1) <|
  ll 4 ⟨(kW [0,1,2,3,4,5,13,14,15,16,17,18,19] [] 0 0),(qcl_ x0 x1 x2 x3 x4 x5 x6 x7 x8 x9 x10 x11 ()).1,(qcl_ x0 x1 x2 x3 x4 x5 x6 x7 x8 x9 x10 x11 ()).2⟩ <|
  ww (qj9_ n (rnd:=rnd) x0 x1 x2 x4 x5 x6 x7 x8 x9 x10 x11 () () hy2) <|
  ll 5 ⟨(kW [0,1,2,4,5,13,14,15,16,17,18] [] 0 0),(qer_ x0 x1 x2 x4 x5 x6 x7 x8 x9 x10 x11 ()).1,(qer_ x0 x1 x2 x4 x5 x6 x7 x8 x9 x10 x11 ()).2⟩ <|
  ee) (by kernel_rfl)
def qm7_ (x0 x1:W8)(x2:Int)(x3:WL rw_iiiii)(x4 x5:Int)(x6:Bool)(st:Unit):XSt:=(sT 118 [(0,(wlV x0)),(1,(wlV x1)),(2,(i6 x2)),(3,(wlV x3)),(4,(i6 x4)),(5,(i6 x5)),(26,(bO x6))],[],⟨sB [],0,0⟩)
def qu_ (x0 x1:W8)(x2:Int)(x3:WL rw_iiiii)(x4 x5:Int)(x6:Bool)(r:(Unit) ⊕ (Unit)):Ex×XSt:=match r with
 | .inl _=>(.ret,(sT 118 [(12,(bO true))],[],⟨sB [],0,0⟩))
 | .inr _=>(.normal,(sT 118 [(0,(wlV x0)),(1,(wlV x1)),(2,(i6 x2)),(3,(wlV x3)),(4,(i6 x4)),(5,(i6 x5))],[],⟨sB [],0,0⟩))
abbrev qm8_ (rd:Option Nat)(x0 x1:W8)(x2:Int)(x3:WL rw_iiiii)(x4 x5:Int)(x6:Bool)(st:Unit)(r:(Unit) ⊕ (Unit)):Prop:=CG P rd (fnN P 3) 0 (qp_ P 3 [true,false,true,true]) (qm7_ x0 x1 x2 x3 x4 x5 x6 st) (qu_ x0 x1 x2 x3 x4 x5 x6 r)
def qbm_ (n:Nat)(x0 x1:W8)(x2:Int)(x3:WL rw_iiiii)(x4 x5:Int)(x6:Bool)(st:Unit):Option ((Unit) ⊕ (Unit)):=
 if x6=true then
  some (.inl ())
 else
  some (.inr ())
theorem qcs_ (n:Nat){rnd:Option Nat}(x0 x1:W8)(x2:Int)(x3:WL rw_iiiii)(x4 x5:Int)(x6:Bool)(st:Unit)(r:(Unit) ⊕ (Unit))(h:qbm_ n x0 x1 x2 x3 x4 x5 x6 st=some r):qm8_ rnd x0 x1 x2 x3 x4 x5 x6 st r:=by
 unfold qbm_ at h
 by_cases hy1:x6=true
 ·rw[if_pos hy1] at h
  obtain rfl:=oI h
  exact runC2 hm (kW [12] [] 0 0) (zz 0 (xbT hy1) <|
   ee) (by kernel_rfl)
 ·rw[if_neg hy1] at h
  obtain rfl:=oI h
  exact runC2 hm (kW [0,1,2,3,4,5] [] 0 0) (zz 0 (xbF hy1) <|
   ee) (by kernel_rfl)
def qm9_ (x0 x1:W8)(x2:Int)(x3:WL rw_iiiii)(x4 x5:Int)(x6:W8)(x7:NL)(x8:Int)(st:Unit):XSt:=(sT 118 [(0,(wlV x0)),(1,(wlV x1)),(2,(i6 x2)),(3,(wlV x3)),(4,(i6 x4)),(5,(i6 x5)),(13,(wlV x6)),(14,(nlV x7)),(15,(i6 x8))],[],⟨sB [],0,0⟩)
def qfa_ (x0 x1:W8)(x2:Int)(x3:WL rw_iiiii)(x4 x5:Int)(x6:W8)(x7:NL)(x8:Int)(r:Unit):Ex×XSt:=match r with
 | _=>(.ret,(sT 118 [(12,(bO true))],[],⟨sB [],0,0⟩))
abbrev qna_ (rd:Option Nat)(x0 x1:W8)(x2:Int)(x3:WL rw_iiiii)(x4 x5:Int)(x6:W8)(x7:NL)(x8:Int)(st r:Unit):Prop:=CG P rd (fnN P 3) 0 (qp_ P 3 [true,true,true,true]) (qm9_ x0 x1 x2 x3 x4 x5 x6 x7 x8 st) (qfa_ x0 x1 x2 x3 x4 x5 x6 x7 x8 r)
def qdf_ (n:Nat)(x0 x1:W8)(x2:Int)(x3:WL rw_iiiii)(x4 x5:Int)(x6:W8)(x7:NL)(x8:Int)(st:Unit):Option (Unit):=
 (q5_ n x0 x2 x1 x3).bind fun t=>match t with
 | (y1_0,y1_1,y1_2)=>
  (qde_ n x0 x1 x2 x3 x4 x5 x6 x7 x8 y1_0 y1_1 y1_2 ()).bind fun _=>
  some ()
theorem qk7_ (n:Nat){rnd:Option Nat}(x0 x1:W8)(x2:Int)(x3:WL rw_iiiii)(x4 x5:Int)(x6:W8)(x7:NL)(x8:Int)(st r:Unit)(h:qdf_ n x0 x1 x2 x3 x4 x5 x6 x7 x8 st=some r):qna_ rnd x0 x1 x2 x3 x4 x5 x6 x7 x8 st r:=by
 unfold qdf_ at h
 obtain⟨⟨y1_0,y1_1,y1_2⟩,hy1,h⟩:=oB h
 dsimp only at h
 obtain⟨_,hy2,h⟩:=oB h
 obtain rfl:=oI h
 exact runC2 hm (kW [12] [] 0 0) (yy 5 (.call (qqn_ x0 x2 x1 x3 (y1_0,y1_1,y1_2) [] [])) <|
  ww (qob_ n x0 x2 x1 x3 (y1_0,y1_1,y1_2) hy1) <|
  ww (qk6_ n (rnd:=rnd) x0 x1 x2 x3 x4 x5 x6 x7 x8 y1_0 y1_1 y1_2 () () hy2) <|
  ll 13 ⟨(kW [0,1,2,3,4,5,13,14,15,16,17,18] [] 0 0),(qe9_ x0 x1 x2 x3 x4 x5 x6 x7 x8 y1_0 y1_1 y1_2 ()).1,(qe9_ x0 x1 x2 x3 x4 x5 x6 x7 x8 y1_0 y1_1 y1_2 ()).2⟩ <|
  ee) (by kernel_rfl)
def qnb_ (x0 x1:W8)(x2:Int)(x3:WL rw_iiiii)(x4 x5:Int)(st:Unit):XSt:=(sT 118 [(0,(wlV x0)),(1,(wlV x1)),(2,(i6 x2)),(3,(wlV x3)),(4,(i6 x4)),(5,(i6 x5)),(21,(bO false))],[],⟨sB [],0,0⟩)
def qfb_ (x0 x1:W8)(x2:Int)(x3:WL rw_iiiii)(x4 x5:Int)(r:Unit):Ex×XSt:=match r with
 | _=>(.normal,(sT 118 [(0,(wlV x0)),(1,(wlV x1)),(2,(i6 x2)),(3,(wlV x3)),(4,(i6 x4)),(5,(i6 x5))],[],⟨sB [],0,0⟩))
abbrev qnc_ (rd:Option Nat)(x0 x1:W8)(x2:Int)(x3:WL rw_iiiii)(x4 x5:Int)(st r:Unit):Prop:=CG P rd (fnN P 3) 0 (qp_ P 3 [true,false,true]) (qnb_ x0 x1 x2 x3 x4 x5 st) (qfb_ x0 x1 x2 x3 x4 x5 r)
def qfc_ (n:Nat)(x0 x1:W8)(x2:Int)(x3:WL rw_iiiii)(x4 x5:Int)(st:Unit):Option (Unit):=
 some ()
theorem qk8_ (n:Nat){rnd:Option Nat}(x0 x1:W8)(x2:Int)(x3:WL rw_iiiii)(x4 x5:Int)(st r:Unit)(h:qfc_ n x0 x1 x2 x3 x4 x5 st=some r):qnc_ rnd x0 x1 x2 x3 x4 x5 st r:=by
 unfold qfc_ at h
 obtain rfl:=oI h
 exact runC2 hm (kW [0,1,2,3,4,5] [] 0 0) (ee) (by kernel_rfl)
def qnd_ (x0 x1:W8)(x2:Int)(x3:WL rw_iiiii)(x4 x5:Int)(st:Unit):XSt:=(sT 118 [(0,(wlV x0)),(1,(wlV x1)),(2,(i6 x2)),(3,(wlV x3)),(4,(i6 x4)),(5,(i6 x5))],[],⟨sB [],0,0⟩)
def qcm_ (x0 x1:W8)(x2:Int)(x3:WL rw_iiiii)(x4 x5:Int)(r:Unit):Ex×XSt:=match r with
 | _=>(.ret,(sT 118 [(12,(bO true))],[],⟨sB [],0,0⟩))
abbrev qne_ (rd:Option Nat)(x0 x1:W8)(x2:Int)(x3:WL rw_iiiii)(x4 x5:Int)(st r:Unit):Prop:=CG P rd (fnN P 3) 0 (qp_ P 3 [true,true,true]) (qnd_ x0 x1 x2 x3 x4 x5 st) (qcm_ x0 x1 x2 x3 x4 x5 r)
def q4_ (n:Nat)(x0 x1:W8)(x2:Int)(x3:WL rw_iiiii)(x4 x5:Int)(st:Unit):Option (Unit):=
 (qct_ n x0).bind fun y1_=>
 (qda_ n y1_ x2 x1 x3).bind fun t=>match t with
 | (y2_0,y2_1,y2_2)=>
  (qdf_ n x0 x1 x2 x3 x4 x5 y2_0 y2_1 y2_2 ()).bind fun _=>
  some ()
theorem qge_ (n:Nat){rnd:Option Nat}(x0 x1:W8)(x2:Int)(x3:WL rw_iiiii)(x4 x5:Int)(st r:Unit)(h:q4_ n x0 x1 x2 x3 x4 x5 st=some r):qne_ rnd x0 x1 x2 x3 x4 x5 st r:=by
 unfold q4_ at h
 obtain⟨y1_,hy1,h⟩:=oB h
 obtain⟨⟨y2_0,y2_1,y2_2⟩,hy2,h⟩:=oB h
 dsimp only at h
 obtain⟨_,hy3,h⟩:=oB h
 obtain rfl:=oI h
 exact runC2 hm (kW [12] [] 0 0) (yy 2 (.call (qqd_ x0 y1_ [] [])) <|
  ww (qn4_ n x0 y1_ hy1) <|
  yy 6 (.call (qyz_ y1_ x2 x1 x3 (y2_0,y2_1,y2_2) [] [])) <|
  ww (quq_ n y1_ x2 x1 x3 (y2_0,y2_1,y2_2) hy2) <|
  ww (qk7_ n (rnd:=rnd) x0 x1 x2 x3 x4 x5 y2_0 y2_1 y2_2 () () hy3) <|
  ll 14 ⟨(kW [0,1,2,3,4,5,13,14,15] [] 0 0),(qfa_ x0 x1 x2 x3 x4 x5 y2_0 y2_1 y2_2 ()).1,(qfa_ x0 x1 x2 x3 x4 x5 y2_0 y2_1 y2_2 ()).2⟩ <|
  ee) (by kernel_rfl)
def qnf_ (x0 x1:W8)(x2:Int)(x3:WL rw_iiiii)(x4 x5:Int)(st:Unit):XSt:=(sT 118 [(0,(wlV x0)),(1,(wlV x1)),(2,(i6 x2)),(3,(wlV x3)),(4,(i6 x4)),(5,(i6 x5))],[],⟨sB [],0,0⟩)
def qfd_ (x0 x1:W8)(x2:Int)(x3:WL rw_iiiii)(x4 x5:Int)(r:Unit):Ex×XSt:=match r with
 | _=>(.ret,(sT 118 [(12,(bO true))],[],⟨sB [],0,0⟩))
abbrev qng_ (rd:Option Nat)(x0 x1:W8)(x2:Int)(x3:WL rw_iiiii)(x4 x5:Int)(st r:Unit):Prop:=CG P rd (fnN P 3) 0 (qp_ P 3 [true,true]) (qnf_ x0 x1 x2 x3 x4 x5 st) (qfd_ x0 x1 x2 x3 x4 x5 r)
def qbn_ (n:Nat)(x0 x1:W8)(x2:Int)(x3:WL rw_iiiii)(x4 x5:Int)(st:Unit):Option (Unit):=
 (qd5_ n x0 x1 x3).bind fun y1_=>
 if y1_=true then
  match qbm_ n x0 x1 x2 x3 x4 x5 false () with
  | none=>none
  | some (.inl _)=>
   some ()
  | some (.inr _)=>
   (q4_ n x0 x1 x2 x3 x4 x5 ()).bind fun _=>
   some ()
 else
  match qbm_ n x0 x1 x2 x3 x4 x5 true () with
  | none=>none
  | some (.inl _)=>
   some ()
  | some (.inr _)=>
   (q4_ n x0 x1 x2 x3 x4 x5 ()).bind fun _=>
   some ()
theorem qk9_ (n:Nat){rnd:Option Nat}(x0 x1:W8)(x2:Int)(x3:WL rw_iiiii)(x4 x5:Int)(st r:Unit)(h:qbn_ n x0 x1 x2 x3 x4 x5 st=some r):qng_ rnd x0 x1 x2 x3 x4 x5 st r:=by
 unfold qbn_ at h
 obtain⟨y1_,hy1,h⟩:=oB h
 have k0:=fun {A L l} (k:PL A L l)=>yy 5 (.call (qrd_ x0 x1 x3 y1_ [] [])) <|
  ww (qor_ n x0 x1 x3 y1_ hy1) <|
  k
 by_cases hy2:y1_=true
 ·rw[if_pos hy2] at h
  have k2:=fun {A L l} (k:PL A L l)=>yy 6 (vf) <|
   ww (p:=(Value.bool (!y1_))=(Value.bool false)) (vBn hy2) <|
   k
  rcases hy3:qbm_ n x0 x1 x2 x3 x4 x5 false () with _ | (⟨⟩ | ⟨⟩)
  ·rw[hy3] at h; cases h
  ·rw[hy3] at h
   dsimp only at h
   obtain rfl:=oI h
   exact runC2 hm (kW [12] [] 0 0) (k0 <|
    k2 <|
    ww (qcs_ n (rnd:=rnd) x0 x1 x2 x3 x4 x5 false () (.inl ()) hy3) <|
    ll 7 ⟨(kW [0,1,2,3,4,5,26] [] 0 0),(qu_ x0 x1 x2 x3 x4 x5 false (.inl ())).1,(qu_ x0 x1 x2 x3 x4 x5 false (.inl ())).2⟩ <|
    ee) (by kernel_rfl)
  ·rw[hy3] at h
   dsimp only at h
   obtain⟨_,hy4,h⟩:=oB h
   obtain rfl:=oI h
   exact runC2 hm (kW [12] [] 0 0) (k0 <|
    k2 <|
    ww (qcs_ n (rnd:=rnd) x0 x1 x2 x3 x4 x5 false () (.inr ()) hy3) <|
    ll 7 ⟨(kW [0,1,2,3,4,5,26] [] 0 0),(qu_ x0 x1 x2 x3 x4 x5 false (.inr ())).1,(qu_ x0 x1 x2 x3 x4 x5 false (.inr ())).2⟩ <|
    ww (qge_ n (rnd:=rnd) x0 x1 x2 x3 x4 x5 () () hy4) <|
    ll 8 ⟨(kW [0,1,2,3,4,5] [] 0 0),(qcm_ x0 x1 x2 x3 x4 x5 ()).1,(qcm_ x0 x1 x2 x3 x4 x5 ()).2⟩ <|
    ee) (by kernel_rfl)
 ·rw[if_neg hy2] at h
  have k2:=fun {A L l} (k:PL A L l)=>yy 6 (vt) <|
   ww (p:=(Value.bool (!y1_))=(Value.bool true)) (vBn (Bool.eq_false_iff.2 hy2)) <|
   k
  rcases hy3:qbm_ n x0 x1 x2 x3 x4 x5 true () with _ | (⟨⟩ | ⟨⟩)
  ·rw[hy3] at h; cases h
  ·rw[hy3] at h
   dsimp only at h
   obtain rfl:=oI h
   exact runC2 hm (kW [12] [] 0 0) (k0 <|
    k2 <|
    ww (qcs_ n (rnd:=rnd) x0 x1 x2 x3 x4 x5 true () (.inl ()) hy3) <|
    ll 7 ⟨(kW [0,1,2,3,4,5,26] [] 0 0),(qu_ x0 x1 x2 x3 x4 x5 true (.inl ())).1,(qu_ x0 x1 x2 x3 x4 x5 true (.inl ())).2⟩ <|
    ee) (by kernel_rfl)
  ·rw[hy3] at h
   dsimp only at h
   obtain⟨_,hy4,h⟩:=oB h
   obtain rfl:=oI h
   exact runC2 hm (kW [12] [] 0 0) (k0 <|
    k2 <|
    ww (qcs_ n (rnd:=rnd) x0 x1 x2 x3 x4 x5 true () (.inr ()) hy3) <|
    ll 7 ⟨(kW [0,1,2,3,4,5,26] [] 0 0),(qu_ x0 x1 x2 x3 x4 x5 true (.inr ())).1,(qu_ x0 x1 x2 x3 x4 x5 true (.inr ())).2⟩ <|
    ww (qge_ n (rnd:=rnd) x0 x1 x2 x3 x4 x5 () () hy4) <|
    ll 8 ⟨(kW [0,1,2,3,4,5] [] 0 0),(qcm_ x0 x1 x2 x3 x4 x5 ()).1,(qcm_ x0 x1 x2 x3 x4 x5 ()).2⟩ <|
    ee) (by kernel_rfl)
def qf4_ (n:Nat)(g2 g4 g5:Int):Option (Unit):=
 (qmo_ n).bind fun _=>
 (qfc_ n wA wB g2 wC g4 g5 ()).bind fun _=>
 (qbn_ n wA wB g2 wC g4 g5 ()).bind fun _=>
 some ()
theorem qmb_ (n:Nat)(g2 g4 g5:Int)(r:Unit)(h:qf4_ n g2 g4 g5=some r):qof_ g2 g4 g5 r:=by
 unfold qf4_ at h
 obtain⟨_,hc1,h⟩:=oB h
 obtain⟨_,hc2,h⟩:=oB h
 obtain⟨_,hc3,h⟩:=oB h
 obtain rfl:=oI h
 exact runF2 hm (kW [12] [] 0 0) (yy 4 (.call ⟨0,[],(Value.bool true),Ax.h0,[]⟩) <|
  ww (qqb_ n  () hc1) <|
  ww (qk8_ n (rnd:=none) wA wB g2 wC g4 g5 () () hc2) <|
  ll 6 ⟨(kW [0,1,2,3,4,5,21] [] 0 0),(qfb_ wA wB g2 wC g4 g5 ()).1,(qfb_ wA wB g2 wC g4 g5 ()).2⟩ <|
  ww (qk9_ n (rnd:=none) wA wB g2 wC g4 g5 () () hc3) <|
  ll 7 ⟨(kW [0,1,2,3,4,5] [] 0 0),(qfd_ wA wB g2 wC g4 g5 ()).1,(qfd_ wA wB g2 wC g4 g5 ()).2⟩ <|
  ee) (by kernel_rfl)

end Go.Proofs.Ytdcocjjkfodjeaa.spc20
