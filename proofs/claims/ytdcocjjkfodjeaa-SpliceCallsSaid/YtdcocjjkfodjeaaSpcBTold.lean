/-
  What functions do, told by pure functions. No condition.
-/
import Derived.Test.YtdcocjjkfodjeaaSpcATold
set_option linter.unusedSimpArgs false
set_option linter.unusedVariables false
set_option linter.unusedSectionVars false
set_option linter.unnecessarySimpa false
set_option maxRecDepth 100000
noncomputable section
namespace Go.Proofs.Ytdcocjjkfodjeaa.spc20
open Go Go.Proofs.Ytdcocjjkfodjeaa Ax
variable [Args]
def qhe_ (a0:W8)(a1:Int)(a2:W8)(a3:WL rw_iiiii):List Value:=[(wlV a0),(i6 a1),(wlV a2),(wlV a3)]
def qhf_ (a0:W8)(a1:Int)(a2:W8)(a3:WL rw_iiiii):AH:=⟨sB [],0,0⟩
def qrn_ (a0:W8)(a1:Int)(a2:W8)(a3:WL rw_iiiii)(r:W8×NL×Int):Value:=match r with
 | (o0,o1,o2)=>(Value.tuple #[(wlV o0),(nlV o1),(i6 o2)])
def qga_ (a0:W8)(a1:Int)(a2:W8)(a3:WL rw_iiiii)(r:W8×NL×Int):AH:=match r with
 | (o0,o1,o2)=>⟨sB [],0,0⟩
abbrev qyy_ (a0:W8)(a1:Int)(a2:W8)(a3:WL rw_iiiii)(r:W8×NL×Int):Prop:=Gv P (.func 6) (qhe_ a0 a1 a2 a3) (qhf_ a0 a1 a2 a3) (qrn_ a0 a1 a2 a3 r) (qga_ a0 a1 a2 a3 r)
abbrev qyz_ (a0:W8)(a1:Int)(a2:W8)(a3:WL rw_iiiii)(r:W8×NL×Int)(ins outs:BL):CallA:=⟨0,ins,qrn_ a0 a1 a2 a3 r,qga_ a0 a1 a2 a3 r,outs⟩
def qhq_ (x0:W8)(x1:Int)(x5:WL rw_iiiii)(x6:Int)(st:List R8×List Int×Int×Int):XSt:=match st with
 | (x2,x3,x4,x7)=>(sT 86 [(0,(wlV x0)),(1,(i6 x1)),(8,(slR x2 0 8)),(9,(slN x3 1)),(13,(Value.int .u64 x4)),(48,(wlV x5)),(49,(i6 x6)),(50,(i6 x7))],[],⟨sB [(0,(nblkR rw_iiiiiiLu x2 46)),(1,(nblk x3 3))],2,0⟩)
def qk_ (x0:W8)(x1:Int)(x5:WL rw_iiiii)(x6:Int)(r:List R8×List Int×Int):Ex×XSt:=match r with
 | (z0,z1,z2)=>(.exit 0,(sT 86 [(0,(wlV x0)),(1,(i6 x1)),(8,(slR z0 0 8)),(9,(slN z1 1)),(13,(Value.int .u64 z2))],[],⟨sB [(0,(nblkR rw_iiiiiiLu z0 46)),(1,(nblk z1 3))],2,0⟩))
abbrev qvl_ (rnd:Option Nat)(x0:W8)(x1:Int)(x5:WL rw_iiiii)(x6:Int)(st:List R8×List Int×Int×Int)(c:Ex×XSt):Prop:=CG P rnd (fnN P 6) 0 (qp_ P 6 [false,false,true,false,true,true,true,true,true,true]) (qhq_ x0 x1 x5 x6 st) c
abbrev qvm_ (rd:Option Nat)(x0:W8)(x1:Int)(x5:WL rw_iiiii)(x6:Int)(st:List R8×List Int×Int×Int)(r:List R8×List Int×Int):Prop:=CG P rd (fnN P 6) 0 (qp_ P 6 [false,true,false,true,true,true,true,true,true]) (qhq_ x0 x1 x5 x6 st) (qk_ x0 x1 x5 x6 r)
def qc1_ (n:Nat)(x0:W8)(x1:Int)(x5:WL rw_iiiii)(x6:Int)(st:List R8×List Int×Int×Int):Option ((List R8×List Int×Int×Int) ⊕ (List R8×List Int×Int)):=match st with
 | (x2,x3,x4,x7)=>
  match x2 with
  | []=>
   match x3 with
   | []=>
    if x7<x6 then
     if 0≤x7∧x7<(((x5).l.length:Nat):Int) then
      ((some (((x5).l).getD (x7).toNat (0,0,0,0,0)))).bind fun y3_=>
      (qdy_ n x0 x1 (y3_.1) (y3_.2.1) (y3_.2.2.1) (y3_.2.2.2.1) (y3_.2.2.2.2)).bind fun y4_=>
      if y4_=true then
       if 0≤(y3_.1) then
        some (.inl (([]:List R8),[(y3_.1)],(qoo_ .u64 x4 (shlV .u64 (1:Int) (y3_.1))),(w64 (x7+1))))
       else none
      else
       some (.inl (([]:List R8),([]:List Int),x4,(w64 (x7+1))))
     else none
    else
     some (.inr (([]:List R8),([]:List Int),x4))
   | x3a::x3t=>
    if x7<x6 then
     if 0≤x7∧x7<(((x5).l.length:Nat):Int) then
      ((some (((x5).l).getD (x7).toNat (0,0,0,0,0)))).bind fun y3_=>
      (qdy_ n x0 x1 (y3_.1) (y3_.2.1) (y3_.2.2.1) (y3_.2.2.2.1) (y3_.2.2.2.2)).bind fun y4_=>
      if y4_=true then
       if (((x3a::x3t)).length+1)*8≤140737488355328 then
        if 0≤(y3_.1) then
         some (.inl (([]:List R8),((x3a::x3t) ++ [(y3_.1)]),(qoo_ .u64 x4 (shlV .u64 (1:Int) (y3_.1))),(w64 (x7+1))))
        else none
       else none
      else
       some (.inl (([]:List R8),(x3a::x3t),x4,(w64 (x7+1))))
     else none
    else
     some (.inr (([]:List R8),(x3a::x3t),x4))
  | x2a::x2t=>
   match x3 with
   | []=>
    if x7<x6 then
     if 0≤x7∧x7<(((x5).l.length:Nat):Int) then
      ((some (((x5).l).getD (x7).toNat (0,0,0,0,0)))).bind fun y3_=>
      (qdy_ n x0 x1 (y3_.1) (y3_.2.1) (y3_.2.2.1) (y3_.2.2.2.1) (y3_.2.2.2.2)).bind fun y4_=>
      if y4_=true then
       if 0≤(y3_.1) then
        some (.inl ((x2a::x2t),[(y3_.1)],(qoo_ .u64 x4 (shlV .u64 (1:Int) (y3_.1))),(w64 (x7+1))))
       else none
      else
       some (.inl ((x2a::x2t),([]:List Int),x4,(w64 (x7+1))))
     else none
    else
     some (.inr ((x2a::x2t),([]:List Int),x4))
   | x3a::x3t=>
    if x7<x6 then
     if 0≤x7∧x7<(((x5).l.length:Nat):Int) then
      ((some (((x5).l).getD (x7).toNat (0,0,0,0,0)))).bind fun y3_=>
      (qdy_ n x0 x1 (y3_.1) (y3_.2.1) (y3_.2.2.1) (y3_.2.2.2.1) (y3_.2.2.2.2)).bind fun y4_=>
      if y4_=true then
       if (((x3a::x3t)).length+1)*8≤140737488355328 then
        if 0≤(y3_.1) then
         some (.inl ((x2a::x2t),((x3a::x3t) ++ [(y3_.1)]),(qoo_ .u64 x4 (shlV .u64 (1:Int) (y3_.1))),(w64 (x7+1))))
        else none
       else none
      else
       some (.inl ((x2a::x2t),(x3a::x3t),x4,(w64 (x7+1))))
     else none
    else
     some (.inr ((x2a::x2t),(x3a::x3t),x4))
def qhr_ (n:Nat)(x0:W8)(x1:Int)(x5:WL rw_iiiii)(x6:Int)(st:List R8×List Int×Int×Int):Option (List R8×List Int×Int):=iterM (qc1_ n x0 x1 x5 x6) n st
theorem qo2_ (n:Nat){rnd:Option Nat}(x0:W8)(x1:Int)(x5:WL rw_iiiii)(x6:Int)(st:List R8×List Int×Int×Int)(o:(List R8×List Int×Int×Int) ⊕ (List R8×List Int×Int))(h:qc1_ n x0 x1 x5 x6 st=some o):qvl_ rnd x0 x1 x5 x6 st (Sum.elim (fun s=>(.normal,qhq_ x0 x1 x5 x6 s)) (fun r=>qk_ x0 x1 x5 x6 r) o):=by
 obtain⟨x2,x3,x4,x7⟩:=st
 unfold qc1_ at h
 dsimp only at h
 cases x2 with
 | nil=>
  dsimp only at h
  cases x3 with
  | nil=>
   dsimp only at h
   by_cases hy1:x7<x6
   ·rw[if_pos hy1] at h
    obtain⟨hy2,h⟩:=gd h
    obtain⟨y3_,hy3,h⟩:=oB h
    obtain⟨y4_,hy4,h⟩:=oB h
    have k0:=fun {A L l} (k:PL A L l)=>zz 1 (xdT hy1) <|
     zz 7 (xk14 (x5).num (x5).off (x5).cap hy2) <|
     zz 8 (lk15 hy3 (qj_ hy2)) <|
     yy 15 (.call (qjb_ x0 x1 (y3_.1) (y3_.2.1) (y3_.2.2.1) (y3_.2.2.2.1) (y3_.2.2.2.2) y4_ [] [])) <|
     ww (qgu_ n x0 x1 (y3_.1) (y3_.2.1) (y3_.2.2.1) (y3_.2.2.2.1) (y3_.2.2.2.2) y4_ hy4) <|
     k
    by_cases hy5:y4_=true
    ·rw[if_pos hy5] at h
     obtain⟨hy6,h⟩:=gd h
     obtain rfl:=oI h
     exact runC2 hm (kW [0,1,8,9,13,48,49,50] [(1,4,false)] 2 0) (k0 <|
      zz 16 (xbT hy5) <|
      yy 27 (.pur (Value.int .u64 (shlV .u64 (1:Int) (y3_.1)))) <|
      ww (p:=opBin P .shl 41 (.const (Value.int .u64 (1:Int))) (.tmp 65) (Value.int .u64 (1:Int)) (i6 (y3_.1)) Ax.h0=some ((Value.int .u64 (shlV .u64 (1:Int) (y3_.1))),Ax.h0)) (qj4_ hy6) <|
      ee) (by kernel_rfl)
    ·rw[if_neg hy5] at h
     obtain rfl:=oI h
     exact runC2 hm (kW [0,1,8,9,13,48,49,50] [] 2 0) (k0 <|
      zz 16 (xbF hy5) <|
      ee) (by kernel_rfl)
   ·rw[if_neg hy1] at h
    obtain rfl:=oI h
    exact runC2 hm (kW [0,1,8,9,13] [] 2 0) (zz 1 (xdF hy1) <|
     ee) (by kernel_rfl)
  | cons x3a x3t=>
   dsimp only at h
   by_cases hy1:x7<x6
   ·rw[if_pos hy1] at h
    obtain⟨hy2,h⟩:=gd h
    obtain⟨y3_,hy3,h⟩:=oB h
    obtain⟨y4_,hy4,h⟩:=oB h
    have k0:=fun {A L l} (k:PL A L l)=>zz 1 (xdT hy1) <|
     zz 7 (xk14 (x5).num (x5).off (x5).cap hy2) <|
     zz 8 (lk15 hy3 (qj_ hy2)) <|
     yy 15 (.call (qjb_ x0 x1 (y3_.1) (y3_.2.1) (y3_.2.2.1) (y3_.2.2.2.1) (y3_.2.2.2.2) y4_ [] [])) <|
     ww (qgu_ n x0 x1 (y3_.1) (y3_.2.1) (y3_.2.2.1) (y3_.2.2.2.1) (y3_.2.2.2.2) y4_ hy4) <|
     k
    by_cases hy5:y4_=true
    ·rw[if_pos hy5] at h
     obtain⟨hy6,h⟩:=gd h
     obtain⟨hy7,h⟩:=gd h
     obtain rfl:=oI h
     exact runC2 hm (kW [0,1,8,9,13,48,49,50] [(1,4,true)] 2 0) (k0 <|
      zz 16 (xbT hy5) <|
      yy 22 (.app ⟨none,iv (x3a::x3t),(iv ((x3a::x3t) ++ [(y3_.1)])),(((x3a::x3t) ++ [(y3_.1)])).length,false⟩) <|
      ww (p:=0<1) ((by decide)) <|
      ww (p:=rdT (layT (iv (x3a::x3t))) (Nat.mul ((x3a::x3t)).length 1) 0=some (iv (x3a::x3t))) (iv_rd _) <|
      ww (p:=fits (Nat.add ((x3a::x3t)).length 1) 8=true) (fits_ok hy6 (by have:=hy6; show (_:Nat)+_≤_; omega)) <|
      ww (p:=qm_ [(i6 (y3_.1))]=true) (rfl) <|
      ww (p:=qm_ (iv (x3a::x3t))=true) (qpf_ _) <|
      ww (p:=iv (x3a::x3t) ++ [(i6 (y3_.1))]=(iv ((x3a::x3t) ++ [(y3_.1)]))) (by simp[iv]) <|
      ww (p:=Nat.add ((x3a::x3t)).length 1=(((x3a::x3t) ++ [(y3_.1)])).length) (by simp) <|
      yy 27 (.pur (Value.int .u64 (shlV .u64 (1:Int) (y3_.1)))) <|
      ww (p:=opBin P .shl 41 (.const (Value.int .u64 (1:Int))) (.tmp 65) (Value.int .u64 (1:Int)) (i6 (y3_.1)) Ax.h0=some ((Value.int .u64 (shlV .u64 (1:Int) (y3_.1))),Ax.h0)) (qj4_ hy7) <|
      ww (qco_ ((x3a::x3t) ++ [(y3_.1)]) 3) <|
      ee) (by kernel_rfl)
    ·rw[if_neg hy5] at h
     obtain rfl:=oI h
     exact runC2 hm (kW [0,1,8,9,13,48,49,50] [(1,1,true)] 2 0) (k0 <|
      zz 16 (xbF hy5) <|
      ww (qco_ (x3a::x3t) 3) <|
      ee) (by kernel_rfl)
   ·rw[if_neg hy1] at h
    obtain rfl:=oI h
    exact runC2 hm (kW [0,1,8,9,13] [(1,1,true)] 2 0) (zz 1 (xdF hy1) <|
     ww (qco_ (x3a::x3t) 3) <|
     ee) (by kernel_rfl)
 | cons x2a x2t=>
  dsimp only at h
  cases x3 with
  | nil=>
   dsimp only at h
   by_cases hy1:x7<x6
   ·rw[if_pos hy1] at h
    obtain⟨hy2,h⟩:=gd h
    obtain⟨y3_,hy3,h⟩:=oB h
    obtain⟨y4_,hy4,h⟩:=oB h
    have k0:=fun {A L l} (k:PL A L l)=>zz 1 (xdT hy1) <|
     zz 7 (xk14 (x5).num (x5).off (x5).cap hy2) <|
     zz 8 (lk15 hy3 (qj_ hy2)) <|
     yy 15 (.call (qjb_ x0 x1 (y3_.1) (y3_.2.1) (y3_.2.2.1) (y3_.2.2.2.1) (y3_.2.2.2.2) y4_ [] [])) <|
     ww (qgu_ n x0 x1 (y3_.1) (y3_.2.1) (y3_.2.2.1) (y3_.2.2.2.1) (y3_.2.2.2.2) y4_ hy4) <|
     k
    by_cases hy5:y4_=true
    ·rw[if_pos hy5] at h
     obtain⟨hy6,h⟩:=gd h
     obtain rfl:=oI h
     exact runC2 hm (kW [0,1,8,9,13,48,49,50] [(0,0,true),(1,4,false)] 2 0) (k0 <|
      zz 16 (xbT hy5) <|
      yy 27 (.pur (Value.int .u64 (shlV .u64 (1:Int) (y3_.1)))) <|
      ww (p:=opBin P .shl 41 (.const (Value.int .u64 (1:Int))) (.tmp 65) (Value.int .u64 (1:Int)) (i6 (y3_.1)) Ax.h0=some ((Value.int .u64 (shlV .u64 (1:Int) (y3_.1))),Ax.h0)) (qj4_ hy6) <|
      ww (qb_ rwf_iiiiiiLu (x2a::x2t) 46) <|
      ee) (by kernel_rfl)
    ·rw[if_neg hy5] at h
     obtain rfl:=oI h
     exact runC2 hm (kW [0,1,8,9,13,48,49,50] [(0,0,true)] 2 0) (k0 <|
      zz 16 (xbF hy5) <|
      ww (qb_ rwf_iiiiiiLu (x2a::x2t) 46) <|
      ee) (by kernel_rfl)
   ·rw[if_neg hy1] at h
    obtain rfl:=oI h
    exact runC2 hm (kW [0,1,8,9,13] [(0,0,true)] 2 0) (zz 1 (xdF hy1) <|
     ww (qb_ rwf_iiiiiiLu (x2a::x2t) 46) <|
     ee) (by kernel_rfl)
  | cons x3a x3t=>
   dsimp only at h
   by_cases hy1:x7<x6
   ·rw[if_pos hy1] at h
    obtain⟨hy2,h⟩:=gd h
    obtain⟨y3_,hy3,h⟩:=oB h
    obtain⟨y4_,hy4,h⟩:=oB h
    have k0:=fun {A L l} (k:PL A L l)=>zz 1 (xdT hy1) <|
     zz 7 (xk14 (x5).num (x5).off (x5).cap hy2) <|
     zz 8 (lk15 hy3 (qj_ hy2)) <|
     yy 15 (.call (qjb_ x0 x1 (y3_.1) (y3_.2.1) (y3_.2.2.1) (y3_.2.2.2.1) (y3_.2.2.2.2) y4_ [] [])) <|
     ww (qgu_ n x0 x1 (y3_.1) (y3_.2.1) (y3_.2.2.1) (y3_.2.2.2.1) (y3_.2.2.2.2) y4_ hy4) <|
     k
    by_cases hy5:y4_=true
    ·rw[if_pos hy5] at h
     obtain⟨hy6,h⟩:=gd h
     obtain⟨hy7,h⟩:=gd h
     obtain rfl:=oI h
     exact runC2 hm (kW [0,1,8,9,13,48,49,50] [(0,0,true),(1,4,true)] 2 0) (k0 <|
      zz 16 (xbT hy5) <|
      yy 22 (.app ⟨none,iv (x3a::x3t),(iv ((x3a::x3t) ++ [(y3_.1)])),(((x3a::x3t) ++ [(y3_.1)])).length,false⟩) <|
      ww (p:=0<1) ((by decide)) <|
      ww (p:=rdT (layT (iv (x3a::x3t))) (Nat.mul ((x3a::x3t)).length 1) 0=some (iv (x3a::x3t))) (iv_rd _) <|
      ww (p:=fits (Nat.add ((x3a::x3t)).length 1) 8=true) (fits_ok hy6 (by have:=hy6; show (_:Nat)+_≤_; omega)) <|
      ww (p:=qm_ [(i6 (y3_.1))]=true) (rfl) <|
      ww (p:=qm_ (iv (x3a::x3t))=true) (qpf_ _) <|
      ww (p:=iv (x3a::x3t) ++ [(i6 (y3_.1))]=(iv ((x3a::x3t) ++ [(y3_.1)]))) (by simp[iv]) <|
      ww (p:=Nat.add ((x3a::x3t)).length 1=(((x3a::x3t) ++ [(y3_.1)])).length) (by simp) <|
      yy 27 (.pur (Value.int .u64 (shlV .u64 (1:Int) (y3_.1)))) <|
      ww (p:=opBin P .shl 41 (.const (Value.int .u64 (1:Int))) (.tmp 65) (Value.int .u64 (1:Int)) (i6 (y3_.1)) Ax.h0=some ((Value.int .u64 (shlV .u64 (1:Int) (y3_.1))),Ax.h0)) (qj4_ hy7) <|
      ww (qb_ rwf_iiiiiiLu (x2a::x2t) 46) <|
      ww (qco_ ((x3a::x3t) ++ [(y3_.1)]) 3) <|
      ee) (by kernel_rfl)
    ·rw[if_neg hy5] at h
     obtain rfl:=oI h
     exact runC2 hm (kW [0,1,8,9,13,48,49,50] [(0,0,true),(1,1,true)] 2 0) (k0 <|
      zz 16 (xbF hy5) <|
      ww (qb_ rwf_iiiiiiLu (x2a::x2t) 46) <|
      ww (qco_ (x3a::x3t) 3) <|
      ee) (by kernel_rfl)
   ·rw[if_neg hy1] at h
    obtain rfl:=oI h
    exact runC2 hm (kW [0,1,8,9,13] [(0,0,true),(1,1,true)] 2 0) (zz 1 (xdF hy1) <|
     ww (qb_ rwf_iiiiiiLu (x2a::x2t) 46) <|
     ww (qco_ (x3a::x3t) 3) <|
     ee) (by kernel_rfl)
theorem qbz_ (n:Nat){rnd:Option Nat}(x0:W8)(x1:Int)(x5:WL rw_iiiii)(x6:Int)(st:List R8×List Int×Int×Int)(r:List R8×List Int×Int)(h:qhr_ n x0 x1 x5 x6 st=some r):qvm_ rnd x0 x1 x5 x6 st r:=
 CG.iter (b:=qp_ P 6 [false,false,true,false,true,true,true,true,true,true]) (by kernel_rfl) (body:=qc1_ n x0 x1 x5 x6) (S:=qhq_ x0 x1 x5 x6) (X:=qk_ x0 x1 x5 x6)
  (fun s s' h=>qo2_ n x0 x1 x5 x6 s (.inl s') h)
  (fun s r h=>qo2_ n x0 x1 x5 x6 s (.inr r) h)
  (fun r=>by intro hx; cases hx) h
def qda_ (n:Nat)(a0:W8)(a1:Int)(a2:W8)(a3:WL rw_iiiii):Option (W8×NL×Int):=
 (q7_ n a0).bind fun c1_=>
 if c1_=0 then
  (q7_ n a2).bind fun c3_=>
  if c3_=0 then
   (qfu_ n a0 a1 a2).bind fun c5_=>
   if c5_=true then
    match qmg_ n a0 a1 a2 with
    | none=>none
    | some (.inl c7_)=>
     if c7_=0 then
      (qho_ n a0 a1).bind fun c9_=>
      (qdx_ n a0 a1 c9_).bind fun _=>
      (qcc_ n a0 a1 c9_).bind fun c11_=>
      (qhr_ n a0 a1 a3 (((a3).l.length:Nat):Int) (([]:List R8),([]:List Int),c11_,0)).bind fun t=>match t with
      | (c12_0,c12_1,c12_2)=>
       match c12_0 with
       | []=>
        match c12_1 with
        | []=>
         if a1 > 0 then
          none
         else
          some ((wl0:W8),nl0,0)
        | c12_1a::c12_1t=>
         if a1 > 0 then
          none
         else
          if hc14:(c12_1a::c12_1t).length≤140737488355328 then
           some ((wl0:W8),(frzL (c12_1a::c12_1t) hc14),0)
          else none
       | c12_0a::c12_0t=>
        match c12_1 with
        | []=>
         if a1 > 0 then
          (qdz_ n a0).bind fun c14_=>
          if 0≤a1∧a1<(((c14_).l.length:Nat):Int) then
           if (a1).toNat<((c14_).l).length then
            ((some (((c14_).l).getD (a1).toNat 0))).bind fun c17_=>
            if 0≤c17_∧c17_<((((c12_0a::c12_0t)).length:Nat):Int) then
             ((some (((c12_0a::c12_0t)).getD (c17_).toNat (0,0,0,0,0,0,nl0,0)))).bind fun c19_=>
             if ((c12_0a::c12_0t)).length=(((c12_0a::c12_0t)).set (c17_).toNat ((c19_.1),(c19_.2.1),(c19_.2.2.1),(c19_.2.2.2.1),(c19_.2.2.2.2.1),(c19_.2.2.2.2.2.1),(c19_.2.2.2.2.2.2.1),(bOr .u64 (c19_.2.2.2.2.2.2.2) c12_2))).length then
              if hc21:(((c12_0a::c12_0t)).set (c17_).toNat ((c19_.1),(c19_.2.1),(c19_.2.2.1),(c19_.2.2.2.1),(c19_.2.2.2.2.1),(c19_.2.2.2.2.2.1),(c19_.2.2.2.2.2.2.1),(bOr .u64 (c19_.2.2.2.2.2.2.2) c12_2))).length≤9223372036854775807 then
               some ((frzR qc_ (((c12_0a::c12_0t)).set (c17_).toNat ((c19_.1),(c19_.2.1),(c19_.2.2.1),(c19_.2.2.2.1),(c19_.2.2.2.2.1),(c19_.2.2.2.2.2.1),(c19_.2.2.2.2.2.2.1),(bOr .u64 (c19_.2.2.2.2.2.2.2) c12_2))) hc21),nl0,0)
              else none
             else none
            else none
           else none
          else none
         else
          if hc14:(c12_0a::c12_0t).length≤9223372036854775807 then
           some ((frzR qc_ (c12_0a::c12_0t) hc14),nl0,0)
          else none
        | c12_1a::c12_1t=>
         if a1 > 0 then
          (qdz_ n a0).bind fun c14_=>
          if 0≤a1∧a1<(((c14_).l.length:Nat):Int) then
           if (a1).toNat<((c14_).l).length then
            ((some (((c14_).l).getD (a1).toNat 0))).bind fun c17_=>
            if 0≤c17_∧c17_<((((c12_0a::c12_0t)).length:Nat):Int) then
             ((some (((c12_0a::c12_0t)).getD (c17_).toNat (0,0,0,0,0,0,nl0,0)))).bind fun c19_=>
             if hc20:(c12_1a::c12_1t).length≤140737488355328 then
              if ((c12_0a::c12_0t)).length=(((c12_0a::c12_0t)).set (c17_).toNat ((c19_.1),(c19_.2.1),(c19_.2.2.1),(c19_.2.2.2.1),(c19_.2.2.2.2.1),(c19_.2.2.2.2.2.1),(c19_.2.2.2.2.2.2.1),(bOr .u64 (c19_.2.2.2.2.2.2.2) c12_2))).length then
               if hc22:(((c12_0a::c12_0t)).set (c17_).toNat ((c19_.1),(c19_.2.1),(c19_.2.2.1),(c19_.2.2.2.1),(c19_.2.2.2.2.1),(c19_.2.2.2.2.2.1),(c19_.2.2.2.2.2.2.1),(bOr .u64 (c19_.2.2.2.2.2.2.2) c12_2))).length≤9223372036854775807 then
                some ((frzR qc_ (((c12_0a::c12_0t)).set (c17_).toNat ((c19_.1),(c19_.2.1),(c19_.2.2.1),(c19_.2.2.2.1),(c19_.2.2.2.2.1),(c19_.2.2.2.2.2.1),(c19_.2.2.2.2.2.2.1),(bOr .u64 (c19_.2.2.2.2.2.2.2) c12_2))) hc22),(frzL (c12_1a::c12_1t) hc20),0)
               else none
              else none
             else none
            else none
           else none
          else none
         else
          if hc14:(c12_1a::c12_1t).length≤140737488355328 then
           if hc15:(c12_0a::c12_0t).length≤9223372036854775807 then
            some ((frzR qc_ (c12_0a::c12_0t) hc15),(frzL (c12_1a::c12_1t) hc14),0)
           else none
          else none
     else
      some ((wl0:W8),nl0,c7_)
    | some (.inr c7_)=>
     match c7_ with
     | []=>
      none
     | c7_a::c7_t=>
      (qho_ n a0 a1).bind fun c8_=>
      (qdx_ n a0 a1 c8_).bind fun _=>
      (qcc_ n a0 a1 c8_).bind fun c10_=>
      (qhr_ n a0 a1 a3 (((a3).l.length:Nat):Int) ((c7_a::c7_t),([]:List Int),c10_,0)).bind fun t=>match t with
      | (c11_0,c11_1,c11_2)=>
       match c11_0 with
       | []=>
        match c11_1 with
        | []=>
         if a1 > 0 then
          none
         else
          some ((wl0:W8),nl0,0)
        | c11_1a::c11_1t=>
         if a1 > 0 then
          none
         else
          if hc13:(c11_1a::c11_1t).length≤140737488355328 then
           some ((wl0:W8),(frzL (c11_1a::c11_1t) hc13),0)
          else none
       | c11_0a::c11_0t=>
        match c11_1 with
        | []=>
         if a1 > 0 then
          (qdz_ n a0).bind fun c13_=>
          if 0≤a1∧a1<(((c13_).l.length:Nat):Int) then
           if (a1).toNat<((c13_).l).length then
            ((some (((c13_).l).getD (a1).toNat 0))).bind fun c16_=>
            if 0≤c16_∧c16_<((((c11_0a::c11_0t)).length:Nat):Int) then
             ((some (((c11_0a::c11_0t)).getD (c16_).toNat (0,0,0,0,0,0,nl0,0)))).bind fun c18_=>
             if ((c11_0a::c11_0t)).length=(((c11_0a::c11_0t)).set (c16_).toNat ((c18_.1),(c18_.2.1),(c18_.2.2.1),(c18_.2.2.2.1),(c18_.2.2.2.2.1),(c18_.2.2.2.2.2.1),(c18_.2.2.2.2.2.2.1),(bOr .u64 (c18_.2.2.2.2.2.2.2) c11_2))).length then
              if hc20:(((c11_0a::c11_0t)).set (c16_).toNat ((c18_.1),(c18_.2.1),(c18_.2.2.1),(c18_.2.2.2.1),(c18_.2.2.2.2.1),(c18_.2.2.2.2.2.1),(c18_.2.2.2.2.2.2.1),(bOr .u64 (c18_.2.2.2.2.2.2.2) c11_2))).length≤9223372036854775807 then
               some ((frzR qc_ (((c11_0a::c11_0t)).set (c16_).toNat ((c18_.1),(c18_.2.1),(c18_.2.2.1),(c18_.2.2.2.1),(c18_.2.2.2.2.1),(c18_.2.2.2.2.2.1),(c18_.2.2.2.2.2.2.1),(bOr .u64 (c18_.2.2.2.2.2.2.2) c11_2))) hc20),nl0,0)
              else none
             else none
            else none
           else none
          else none
         else
          if hc13:(c11_0a::c11_0t).length≤9223372036854775807 then
           some ((frzR qc_ (c11_0a::c11_0t) hc13),nl0,0)
          else none
        | c11_1a::c11_1t=>
         if a1 > 0 then
          (qdz_ n a0).bind fun c13_=>
          if 0≤a1∧a1<(((c13_).l.length:Nat):Int) then
           if (a1).toNat<((c13_).l).length then
            ((some (((c13_).l).getD (a1).toNat 0))).bind fun c16_=>
            if 0≤c16_∧c16_<((((c11_0a::c11_0t)).length:Nat):Int) then
             ((some (((c11_0a::c11_0t)).getD (c16_).toNat (0,0,0,0,0,0,nl0,0)))).bind fun c18_=>
             if hc19:(c11_1a::c11_1t).length≤140737488355328 then
              if ((c11_0a::c11_0t)).length=(((c11_0a::c11_0t)).set (c16_).toNat ((c18_.1),(c18_.2.1),(c18_.2.2.1),(c18_.2.2.2.1),(c18_.2.2.2.2.1),(c18_.2.2.2.2.2.1),(c18_.2.2.2.2.2.2.1),(bOr .u64 (c18_.2.2.2.2.2.2.2) c11_2))).length then
               if hc21:(((c11_0a::c11_0t)).set (c16_).toNat ((c18_.1),(c18_.2.1),(c18_.2.2.1),(c18_.2.2.2.1),(c18_.2.2.2.2.1),(c18_.2.2.2.2.2.1),(c18_.2.2.2.2.2.2.1),(bOr .u64 (c18_.2.2.2.2.2.2.2) c11_2))).length≤9223372036854775807 then
                some ((frzR qc_ (((c11_0a::c11_0t)).set (c16_).toNat ((c18_.1),(c18_.2.1),(c18_.2.2.1),(c18_.2.2.2.1),(c18_.2.2.2.2.1),(c18_.2.2.2.2.2.1),(c18_.2.2.2.2.2.2.1),(bOr .u64 (c18_.2.2.2.2.2.2.2) c11_2))) hc21),(frzL (c11_1a::c11_1t) hc19),0)
               else none
              else none
             else none
            else none
           else none
          else none
         else
          if hc13:(c11_1a::c11_1t).length≤140737488355328 then
           if hc14:(c11_0a::c11_0t).length≤9223372036854775807 then
            some ((frzR qc_ (c11_0a::c11_0t) hc14),(frzL (c11_1a::c11_1t) hc13),0)
           else none
          else none
   else
    some ((wl0:W8),nl0,2)
  else
   some ((wl0:W8),nl0,c3_)
 else
  some ((wl0:W8),nl0,c1_)
theorem quq_ (n:Nat)(a0:W8)(a1:Int)(a2:W8)(a3:WL rw_iiiii)(r:W8×NL×Int)(h:qda_ n a0 a1 a2 a3=some r):qyy_ a0 a1 a2 a3 r:=by
 unfold qda_ at h
 obtain⟨c1_,hc1,h⟩:=oB h
 have k0:=fun {A L l} (k:PL A L l)=>yy 7 (.call (qft_ a0 c1_ [] [])) <|
  ww (qc8_ n a0 c1_ hc1) <|
  k
 by_cases hc2:c1_=0
 ·rw[if_pos hc2] at h
  obtain⟨c3_,hc3,h⟩:=oB h
  have k2:=fun {A L l} (k:PL A L l)=>zz 11 (xnF hc2) <|
   yy 16 (.call (qft_ a2 c3_ [] [])) <|
   ww (qc8_ n a2 c3_ hc3) <|
   k
  by_cases hc4:c3_=0
  ·rw[if_pos hc4] at h
   obtain⟨c5_,hc5,h⟩:=oB h
   have k5:=fun {A L l} (k:PL A L l)=>zz 20 (xnF hc4) <|
    yy 27 (.call (quj_ a0 a1 a2 c5_ [] [])) <|
    ww (qp2_ n a0 a1 a2 c5_ hc5) <|
    k
   by_cases hc6:c5_=true
   ·rw[if_pos hc6] at h
    have k8:=fun {A L l} (k:PL A L l)=>yy 28 (vf) <|
     ww (p:=(Value.bool (!c5_))=(Value.bool false)) (vBn hc6) <|
     k
    rcases hc7:qmg_ n a0 a1 a2 with _ | (c7_ | c7_)
    ·rw[hc7] at h; cases h
    ·rw[hc7] at h
     dsimp only at h
     have k10:=fun {A L l} (k:PL A L l)=>yy 35 (.call (q0c_ a0 a1 a2 (.inl c7_) [] [])) <|
      ww (qul_ n a0 a1 a2 (.inl c7_) hc7) <|
      k
     by_cases hc8:c7_=0
     ·rw[if_pos hc8] at h
      obtain⟨c9_,hc9,h⟩:=oB h
      obtain⟨_,hc10,h⟩:=oB h
      obtain⟨c11_,hc11,h⟩:=oB h
      obtain⟨⟨c12_0,c12_1,c12_2⟩,hc12,h⟩:=oB h
      dsimp only at h
      have k12:=fun {A L l} (k:PL A L l)=>zz 43 (xnF hc8) <|
       yy 50 (.call (qvj_ a0 a1 c9_ [] [])) <|
       ww (qpi_ n a0 a1 c9_ hc9) <|
       yy 51 (.call (qi8_ a0 a1 c9_ () [] (iD 3))) <|
       ww (qgs_ n a0 a1 c9_ () hc10) <|
       yy 52 (.call (qhd_ a0 a1 c9_ c11_ (iD 3) (iD 3))) <|
       ww (qfv_ n a0 a1 c9_ c11_ hc11) <|
       k
      cases c12_0 with
      | nil=>
       dsimp only at h
       cases c12_1 with
       | nil=>
        dsimp only at h
        have k19:=fun {A L l} (k:PL A L l)=>ww (qbz_ n (rnd:=none) a0 a1 a3 (((a3).l.length:Nat):Int) (([]:List R8),([]:List Int),c11_,0) (([]:List R8),([]:List Int),c12_2) hc12) <|
         ll 60 ⟨(kW [0,1,8,9,13,48,49,50] [] 2 0),(qk_ a0 a1 a3 (((a3).l.length:Nat):Int) (([]:List R8),([]:List Int),c12_2)).1,(qk_ a0 a1 a3 (((a3).l.length:Nat):Int) (([]:List R8),([]:List Int),c12_2)).2⟩ <|
         k
        by_cases hc13:a1 > 0
        ·rw[if_pos hc13] at h
         cases h
        ·rw[if_neg hc13] at h
         obtain rfl:=oI h
         exact runF2 hm ⟨[8,9,10],[],0,0,[],true,[],[],[8,9]⟩ (k0 <|
          k2 <|
          k5 <|
          k8 <|
          k10 <|
          k12 <|
          k19 <|
          zz 64 (xdF hc13) <|
          ee) (by kernel_rfl)
       | cons c12_1a c12_1t=>
        dsimp only at h
        have k19:=fun {A L l} (k:PL A L l)=>ww (qbz_ n (rnd:=none) a0 a1 a3 (((a3).l.length:Nat):Int) (([]:List R8),([]:List Int),c11_,0) (([]:List R8),(c12_1a::c12_1t),c12_2) hc12) <|
         ll 60 ⟨(kW [0,1,8,9,13,48,49,50] [] 2 0),(qk_ a0 a1 a3 (((a3).l.length:Nat):Int) (([]:List R8),(c12_1a::c12_1t),c12_2)).1,(qk_ a0 a1 a3 (((a3).l.length:Nat):Int) (([]:List R8),(c12_1a::c12_1t),c12_2)).2⟩ <|
         k
        by_cases hc13:a1 > 0
        ·rw[if_pos hc13] at h
         cases h
        ·rw[if_neg hc13] at h
         obtain⟨hc14,h⟩:=gdD h
         obtain rfl:=oI h
         exact runF2 hm ⟨[8,9,10],[],0,0,[(1,Nat.add (2*cod (c12_1a::c12_1t)+1) 64)],true,[],[],[8]⟩ (k0 <|
          k2 <|
          k5 <|
          k8 <|
          k10 <|
          k12 <|
          k19 <|
          zz 64 (xdF hc13) <|
          ww (qon_ ql_ q2_ (c12_1a::c12_1t)) <|
          ee) (by kernel_rfl)
      | cons c12_0a c12_0t=>
       dsimp only at h
       cases c12_1 with
       | nil=>
        dsimp only at h
        have k19:=fun {A L l} (k:PL A L l)=>ww (qbz_ n (rnd:=none) a0 a1 a3 (((a3).l.length:Nat):Int) (([]:List R8),([]:List Int),c11_,0) ((c12_0a::c12_0t),([]:List Int),c12_2) hc12) <|
         ll 60 ⟨(kW [0,1,8,9,13,48,49,50] [] 2 0),(qk_ a0 a1 a3 (((a3).l.length:Nat):Int) ((c12_0a::c12_0t),([]:List Int),c12_2)).1,(qk_ a0 a1 a3 (((a3).l.length:Nat):Int) ((c12_0a::c12_0t),([]:List Int),c12_2)).2⟩ <|
         k
        by_cases hc13:a1 > 0
        ·rw[if_pos hc13] at h
         obtain⟨c14_,hc14,h⟩:=oB h
         obtain⟨hc15,h⟩:=gd h
         obtain⟨hc16,h⟩:=gd h
         obtain⟨c17_,hc17,h⟩:=oB h
         obtain⟨hc18,h⟩:=gd h
         obtain⟨c19_,hc19,h⟩:=oB h
         obtain⟨hc20,h⟩:=gd h
         obtain⟨hc21,h⟩:=gdD h
         have hr:=oI h
         rw[←hr]
         clear hr h
         obtain⟨za,zt,hz⟩:∃ a t,(((c12_0a::c12_0t)).set (c17_).toNat ((c19_.1),(c19_.2.1),(c19_.2.2.1),(c19_.2.2.2.1),(c19_.2.2.2.2.1),(c19_.2.2.2.2.2.1),(c19_.2.2.2.2.2.2.1),(bOr .u64 (c19_.2.2.2.2.2.2.2) c12_2)))=a::t:=qmn_
         revert hc21
         rw[hz]
         intro hc21
         try rw[hz] at hc20
         try rw[hz] at k0
         try rw[hz] at k2
         try rw[hz] at k5
         try rw[hz] at k8
         try rw[hz] at k10
         try rw[hz] at k12
         try rw[hz] at k19
         have k0_:Gv P (.func 6) (qhe_ a0 a1 a2 a3) (qhf_ a0 a1 a2 a3) (Value.tuple #[(Value.slice (some ⟨Nat.add (2*codL (rows rw_iiiiiiLu (za::zt))+1) 64,0,some 1⟩) (((c12_0a::c12_0t)).length) (Nat.add big (((c12_0a::c12_0t)).length))),(nlV nl0),(i6 (0:Int))]) (qga_ a0 a1 a2 a3 ((frzR qc_ (za::zt) hc21),nl0,0)):=runF2 hm ⟨[8,9,10],[],0,0,[(0,Nat.add (2*codL (rows rw_iiiiiiLu (za::zt))+1) 64)],true,[],[],[9]⟩ (k0 <|
         k2 <|
         k5 <|
         k8 <|
         k10 <|
         k12 <|
         k19 <|
         zz 64 (xdT hc13) <|
         yy 68 (.call (qke_ a0 c14_ [] [])) <|
         ww (qhp_ n a0 c14_ hc14) <|
         zz 70 (xk8 (Nat.add (c14_).num 64) (c14_).off (c14_).cap hc15) <|
         zz 71 (nk9 hc17 hc16) <|
         zz 72 (xk3 0 U8 hc18) <|
         zz 74 (ok20 hc19 (qj_ hc18)) <|
         zz 77 (xk3 0 U8 hc18) <|
         yy 79 (.sto (layT (rows rw_iiiiiiLu (za::zt)))) <|
         ww (p:=∃ old,rdT (layT (rows rw_iiiiiiLu (c12_0a::c12_0t))) 1 (Nat.add ((c17_).toNat*8) 7)=some old) ((ste (k:=1) (qf9_ rwf_iiiiiiLu (0,0,0,0,0,0,nl0,0) (hr:=hc19) (i:=(c17_).toNat) (j:=7) (l:=[(Value.int .u64 (bOr .u64 (c19_.2.2.2.2.2.2.2) c12_2))]) ((c19_.1),(c19_.2.1),(c19_.2.2.1),(c19_.2.2.2.1),(c19_.2.2.2.2.1),(c19_.2.2.2.2.2.1),(c19_.2.2.2.2.2.2.1),(bOr .u64 (c19_.2.2.2.2.2.2.2) c12_2)) (Nat.add ((c17_).toNat*8) 7) rfl (qj_ hc18) (Nat.le_of_ble_eq_true rfl) rfl)).p) <|
         ww (p:=layL [(Value.int .u64 (bOr .u64 (c19_.2.2.2.2.2.2.2) c12_2))] (Nat.add ((c17_).toNat*8) 7) (layT (rows rw_iiiiiiLu (c12_0a::c12_0t)))=layT (rows rw_iiiiiiLu (za::zt))) (by rw[←hz]; exact (ste (k:=1) (qf9_ rwf_iiiiiiLu (0,0,0,0,0,0,nl0,0) (hr:=hc19) (i:=(c17_).toNat) (j:=7) (l:=[(Value.int .u64 (bOr .u64 (c19_.2.2.2.2.2.2.2) c12_2))]) ((c19_.1),(c19_.2.1),(c19_.2.2.1),(c19_.2.2.2.1),(c19_.2.2.2.2.1),(c19_.2.2.2.2.2.1),(c19_.2.2.2.2.2.2.1),(bOr .u64 (c19_.2.2.2.2.2.2.2) c12_2)) (Nat.add ((c17_).toNat*8) 7) rfl (qj_ hc18) (Nat.le_of_ble_eq_true rfl) rfl)).q) <|
         ww (qf5_ ql_ q2_ qc_ (za::zt)) <|
         ee) (by kernel_rfl)
         have k1_:=gvLen (fn:=fun m_=>(Value.tuple #[(Value.slice (some ⟨Nat.add (2*codL (rows rw_iiiiiiLu (za::zt))+1) 64,0,some 1⟩) m_ (Nat.add big m_)),(nlV nl0),(i6 (0:Int))])) hc20 k0_
         exact k1_
        ·rw[if_neg hc13] at h
         obtain⟨hc14,h⟩:=gdD h
         obtain rfl:=oI h
         exact runF2 hm ⟨[8,9,10],[],0,0,[(0,Nat.add (2*codL (rows rw_iiiiiiLu (c12_0a::c12_0t))+1) 64)],true,[],[],[9]⟩ (k0 <|
          k2 <|
          k5 <|
          k8 <|
          k10 <|
          k12 <|
          k19 <|
          zz 64 (xdF hc13) <|
          ww (qf5_ ql_ q2_ qc_ (c12_0a::c12_0t)) <|
          ee) (by kernel_rfl)
       | cons c12_1a c12_1t=>
        dsimp only at h
        have k19:=fun {A L l} (k:PL A L l)=>ww (qbz_ n (rnd:=none) a0 a1 a3 (((a3).l.length:Nat):Int) (([]:List R8),([]:List Int),c11_,0) ((c12_0a::c12_0t),(c12_1a::c12_1t),c12_2) hc12) <|
         ll 60 ⟨(kW [0,1,8,9,13,48,49,50] [] 2 0),(qk_ a0 a1 a3 (((a3).l.length:Nat):Int) ((c12_0a::c12_0t),(c12_1a::c12_1t),c12_2)).1,(qk_ a0 a1 a3 (((a3).l.length:Nat):Int) ((c12_0a::c12_0t),(c12_1a::c12_1t),c12_2)).2⟩ <|
         k
        by_cases hc13:a1 > 0
        ·rw[if_pos hc13] at h
         obtain⟨c14_,hc14,h⟩:=oB h
         obtain⟨hc15,h⟩:=gd h
         obtain⟨hc16,h⟩:=gd h
         obtain⟨c17_,hc17,h⟩:=oB h
         obtain⟨hc18,h⟩:=gd h
         obtain⟨c19_,hc19,h⟩:=oB h
         obtain⟨hc20,h⟩:=gdD h
         replace h:=gd h
         obtain⟨hc21,h⟩:=h
         replace h:=gdD h
         obtain⟨hc22,h⟩:=h
         have hr:=oI h
         rw[←hr]
         clear hr h
         obtain⟨za,zt,hz⟩:∃ a t,(((c12_0a::c12_0t)).set (c17_).toNat ((c19_.1),(c19_.2.1),(c19_.2.2.1),(c19_.2.2.2.1),(c19_.2.2.2.2.1),(c19_.2.2.2.2.2.1),(c19_.2.2.2.2.2.2.1),(bOr .u64 (c19_.2.2.2.2.2.2.2) c12_2)))=a::t:=qmn_
         revert hc22
         rw[hz]
         intro hc22
         try rw[hz] at hc21
         try rw[hz] at k0
         try rw[hz] at k2
         try rw[hz] at k5
         try rw[hz] at k8
         try rw[hz] at k10
         try rw[hz] at k12
         try rw[hz] at k19
         have k0_:Gv P (.func 6) (qhe_ a0 a1 a2 a3) (qhf_ a0 a1 a2 a3) (Value.tuple #[(Value.slice (some ⟨Nat.add (2*codL (rows rw_iiiiiiLu (za::zt))+1) 64,0,some 1⟩) (((c12_0a::c12_0t)).length) (Nat.add big (((c12_0a::c12_0t)).length))),(nlV (frzL (c12_1a::c12_1t) hc20)),(i6 (0:Int))]) (qga_ a0 a1 a2 a3 ((frzR qc_ (za::zt) hc22),(frzL (c12_1a::c12_1t) hc20),0)):=runF2 hm ⟨[8,9,10],[],0,0,[(1,Nat.add (2*cod (c12_1a::c12_1t)+1) 64),(0,Nat.add (2*codL (rows rw_iiiiiiLu (za::zt))+1) 64)],true,[],[],[]⟩ (k0 <|
         k2 <|
         k5 <|
         k8 <|
         k10 <|
         k12 <|
         k19 <|
         zz 64 (xdT hc13) <|
         yy 68 (.call (qke_ a0 c14_ [] [])) <|
         ww (qhp_ n a0 c14_ hc14) <|
         zz 70 (xk8 (Nat.add (c14_).num 64) (c14_).off (c14_).cap hc15) <|
         zz 71 (nk9 hc17 hc16) <|
         zz 72 (xk3 0 U8 hc18) <|
         zz 74 (ok20 hc19 (qj_ hc18)) <|
         zz 77 (xk3 0 U8 hc18) <|
         yy 79 (.sto (layT (rows rw_iiiiiiLu (za::zt)))) <|
         ww (p:=∃ old,rdT (layT (rows rw_iiiiiiLu (c12_0a::c12_0t))) 1 (Nat.add ((c17_).toNat*8) 7)=some old) ((ste (k:=1) (qf9_ rwf_iiiiiiLu (0,0,0,0,0,0,nl0,0) (hr:=hc19) (i:=(c17_).toNat) (j:=7) (l:=[(Value.int .u64 (bOr .u64 (c19_.2.2.2.2.2.2.2) c12_2))]) ((c19_.1),(c19_.2.1),(c19_.2.2.1),(c19_.2.2.2.1),(c19_.2.2.2.2.1),(c19_.2.2.2.2.2.1),(c19_.2.2.2.2.2.2.1),(bOr .u64 (c19_.2.2.2.2.2.2.2) c12_2)) (Nat.add ((c17_).toNat*8) 7) rfl (qj_ hc18) (Nat.le_of_ble_eq_true rfl) rfl)).p) <|
         ww (p:=layL [(Value.int .u64 (bOr .u64 (c19_.2.2.2.2.2.2.2) c12_2))] (Nat.add ((c17_).toNat*8) 7) (layT (rows rw_iiiiiiLu (c12_0a::c12_0t)))=layT (rows rw_iiiiiiLu (za::zt))) (by rw[←hz]; exact (ste (k:=1) (qf9_ rwf_iiiiiiLu (0,0,0,0,0,0,nl0,0) (hr:=hc19) (i:=(c17_).toNat) (j:=7) (l:=[(Value.int .u64 (bOr .u64 (c19_.2.2.2.2.2.2.2) c12_2))]) ((c19_.1),(c19_.2.1),(c19_.2.2.1),(c19_.2.2.2.1),(c19_.2.2.2.2.1),(c19_.2.2.2.2.2.1),(c19_.2.2.2.2.2.2.1),(bOr .u64 (c19_.2.2.2.2.2.2.2) c12_2)) (Nat.add ((c17_).toNat*8) 7) rfl (qj_ hc18) (Nat.le_of_ble_eq_true rfl) rfl)).q) <|
         ww (qon_ ql_ q2_ (c12_1a::c12_1t)) <|
         ww (qf5_ ql_ q2_ qc_ (za::zt)) <|
         ee) (by kernel_rfl)
         have k1_:=gvLen (fn:=fun m_=>(Value.tuple #[(Value.slice (some ⟨Nat.add (2*codL (rows rw_iiiiiiLu (za::zt))+1) 64,0,some 1⟩) m_ (Nat.add big m_)),(nlV (frzL (c12_1a::c12_1t) hc20)),(i6 (0:Int))])) hc21 k0_
         exact k1_
        ·rw[if_neg hc13] at h
         obtain⟨hc14,h⟩:=gdD h
         replace h:=gdD h
         obtain⟨hc15,h⟩:=h
         obtain rfl:=oI h
         exact runF2 hm ⟨[8,9,10],[],0,0,[(1,Nat.add (2*cod (c12_1a::c12_1t)+1) 64),(0,Nat.add (2*codL (rows rw_iiiiiiLu (c12_0a::c12_0t))+1) 64)],true,[],[],[]⟩ (k0 <|
          k2 <|
          k5 <|
          k8 <|
          k10 <|
          k12 <|
          k19 <|
          zz 64 (xdF hc13) <|
          ww (qon_ ql_ q2_ (c12_1a::c12_1t)) <|
          ww (qf5_ ql_ q2_ qc_ (c12_0a::c12_0t)) <|
          ee) (by kernel_rfl)
     ·rw[if_neg hc8] at h
      obtain rfl:=oI h
      exact runF2 hm ⟨[8,9,10],[],0,0,[],true,[],[],[8,9]⟩ (k0 <|
       k2 <|
       k5 <|
       k8 <|
       k10 <|
       zz 43 (xnT hc8) <|
       ee) (by kernel_rfl)
    ·rw[hc7] at h
     dsimp only at h
     cases c7_ with
     | nil=>
      dsimp only at h
      cases h
     | cons c7_a c7_t=>
      dsimp only at h
      obtain⟨c8_,hc8,h⟩:=oB h
      obtain⟨_,hc9,h⟩:=oB h
      obtain⟨c10_,hc10,h⟩:=oB h
      obtain⟨⟨c11_0,c11_1,c11_2⟩,hc11,h⟩:=oB h
      dsimp only at h
      have k10:=fun {A L l} (k:PL A L l)=>yy 35 (.call (q0c_ a0 a1 a2 (.inr (c7_a::c7_t)) [] [(0,0,true)])) <|
       ww (qul_ n a0 a1 a2 (.inr (c7_a::c7_t)) hc7) <|
       ww (qb_ rwf_iiiiiiLu (c7_a::c7_t) 46) <|
       yy 50 (.call (qvj_ a0 a1 c8_ [] [])) <|
       ww (qpi_ n a0 a1 c8_ hc8) <|
       yy 51 (.call (qi8_ a0 a1 c8_ () [] [(1,0,false),(2,1,false),(3,2,false)])) <|
       ww (qgs_ n a0 a1 c8_ () hc9) <|
       yy 52 (.call (qhd_ a0 a1 c8_ c10_ [(0,1,false),(1,2,false),(2,3,false)] [(1,0,false),(2,1,false),(3,2,false)])) <|
       ww (qfv_ n a0 a1 c8_ c10_ hc10) <|
       k
      cases c11_0 with
      | nil=>
       dsimp only at h
       cases c11_1 with
       | nil=>
        dsimp only at h
        have k19:=fun {A L l} (k:PL A L l)=>ww (qbz_ n (rnd:=none) a0 a1 a3 (((a3).l.length:Nat):Int) ((c7_a::c7_t),([]:List Int),c10_,0) (([]:List R8),([]:List Int),c11_2) hc11) <|
         ww (qb_ rwf_iiiiiiLu (c7_a::c7_t) 46) <|
         ll 60 ⟨(kW [0,1,8,9,13,48,49,50] [(0,0,true)] 2 0),(qk_ a0 a1 a3 (((a3).l.length:Nat):Int) (([]:List R8),([]:List Int),c11_2)).1,(qk_ a0 a1 a3 (((a3).l.length:Nat):Int) (([]:List R8),([]:List Int),c11_2)).2⟩ <|
         k
        by_cases hc12:a1 > 0
        ·rw[if_pos hc12] at h
         cases h
        ·rw[if_neg hc12] at h
         obtain rfl:=oI h
         exact runF2 hm ⟨[8,9,10],[],0,0,[],true,[],[],[8,9]⟩ (k0 <|
          k2 <|
          k5 <|
          k8 <|
          k10 <|
          k19 <|
          zz 64 (xdF hc12) <|
          ee) (by kernel_rfl)
       | cons c11_1a c11_1t=>
        dsimp only at h
        have k19:=fun {A L l} (k:PL A L l)=>ww (qbz_ n (rnd:=none) a0 a1 a3 (((a3).l.length:Nat):Int) ((c7_a::c7_t),([]:List Int),c10_,0) (([]:List R8),(c11_1a::c11_1t),c11_2) hc11) <|
         ww (qb_ rwf_iiiiiiLu (c7_a::c7_t) 46) <|
         ll 60 ⟨(kW [0,1,8,9,13,48,49,50] [(0,0,true)] 2 0),(qk_ a0 a1 a3 (((a3).l.length:Nat):Int) (([]:List R8),(c11_1a::c11_1t),c11_2)).1,(qk_ a0 a1 a3 (((a3).l.length:Nat):Int) (([]:List R8),(c11_1a::c11_1t),c11_2)).2⟩ <|
         k
        by_cases hc12:a1 > 0
        ·rw[if_pos hc12] at h
         cases h
        ·rw[if_neg hc12] at h
         obtain⟨hc13,h⟩:=gdD h
         obtain rfl:=oI h
         exact runF2 hm ⟨[8,9,10],[],0,0,[(1,Nat.add (2*cod (c11_1a::c11_1t)+1) 64)],true,[],[],[8]⟩ (k0 <|
          k2 <|
          k5 <|
          k8 <|
          k10 <|
          k19 <|
          zz 64 (xdF hc12) <|
          ww (qon_ ql_ q2_ (c11_1a::c11_1t)) <|
          ee) (by kernel_rfl)
      | cons c11_0a c11_0t=>
       dsimp only at h
       cases c11_1 with
       | nil=>
        dsimp only at h
        have k19:=fun {A L l} (k:PL A L l)=>ww (qbz_ n (rnd:=none) a0 a1 a3 (((a3).l.length:Nat):Int) ((c7_a::c7_t),([]:List Int),c10_,0) ((c11_0a::c11_0t),([]:List Int),c11_2) hc11) <|
         ww (qb_ rwf_iiiiiiLu (c7_a::c7_t) 46) <|
         ll 60 ⟨(kW [0,1,8,9,13,48,49,50] [(0,0,true)] 2 0),(qk_ a0 a1 a3 (((a3).l.length:Nat):Int) ((c11_0a::c11_0t),([]:List Int),c11_2)).1,(qk_ a0 a1 a3 (((a3).l.length:Nat):Int) ((c11_0a::c11_0t),([]:List Int),c11_2)).2⟩ <|
         k
        by_cases hc12:a1 > 0
        ·rw[if_pos hc12] at h
         obtain⟨c13_,hc13,h⟩:=oB h
         obtain⟨hc14,h⟩:=gd h
         obtain⟨hc15,h⟩:=gd h
         obtain⟨c16_,hc16,h⟩:=oB h
         obtain⟨hc17,h⟩:=gd h
         obtain⟨c18_,hc18,h⟩:=oB h
         obtain⟨hc19,h⟩:=gd h
         obtain⟨hc20,h⟩:=gdD h
         have hr:=oI h
         rw[←hr]
         clear hr h
         obtain⟨za,zt,hz⟩:∃ a t,(((c11_0a::c11_0t)).set (c16_).toNat ((c18_.1),(c18_.2.1),(c18_.2.2.1),(c18_.2.2.2.1),(c18_.2.2.2.2.1),(c18_.2.2.2.2.2.1),(c18_.2.2.2.2.2.2.1),(bOr .u64 (c18_.2.2.2.2.2.2.2) c11_2)))=a::t:=qmn_
         revert hc20
         rw[hz]
         intro hc20
         try rw[hz] at hc19
         try rw[hz] at k0
         try rw[hz] at k2
         try rw[hz] at k5
         try rw[hz] at k8
         try rw[hz] at k10
         try rw[hz] at k19
         have k0_:Gv P (.func 6) (qhe_ a0 a1 a2 a3) (qhf_ a0 a1 a2 a3) (Value.tuple #[(Value.slice (some ⟨Nat.add (2*codL (rows rw_iiiiiiLu (za::zt))+1) 64,0,some 1⟩) (((c11_0a::c11_0t)).length) (Nat.add big (((c11_0a::c11_0t)).length))),(nlV nl0),(i6 (0:Int))]) (qga_ a0 a1 a2 a3 ((frzR qc_ (za::zt) hc20),nl0,0)):=runF2 hm ⟨[8,9,10],[],0,0,[(0,Nat.add (2*codL (rows rw_iiiiiiLu (za::zt))+1) 64)],true,[],[],[9]⟩ (k0 <|
         k2 <|
         k5 <|
         k8 <|
         k10 <|
         k19 <|
         zz 64 (xdT hc12) <|
         yy 68 (.call (qke_ a0 c13_ [] [])) <|
         ww (qhp_ n a0 c13_ hc13) <|
         zz 70 (xk8 (Nat.add (c13_).num 64) (c13_).off (c13_).cap hc14) <|
         zz 71 (nk9 hc16 hc15) <|
         zz 72 (xk3 0 U8 hc17) <|
         zz 74 (ok20 hc18 (qj_ hc17)) <|
         zz 77 (xk3 0 U8 hc17) <|
         yy 79 (.sto (layT (rows rw_iiiiiiLu (za::zt)))) <|
         ww (p:=∃ old,rdT (layT (rows rw_iiiiiiLu (c11_0a::c11_0t))) 1 (Nat.add ((c16_).toNat*8) 7)=some old) ((ste (k:=1) (qf9_ rwf_iiiiiiLu (0,0,0,0,0,0,nl0,0) (hr:=hc18) (i:=(c16_).toNat) (j:=7) (l:=[(Value.int .u64 (bOr .u64 (c18_.2.2.2.2.2.2.2) c11_2))]) ((c18_.1),(c18_.2.1),(c18_.2.2.1),(c18_.2.2.2.1),(c18_.2.2.2.2.1),(c18_.2.2.2.2.2.1),(c18_.2.2.2.2.2.2.1),(bOr .u64 (c18_.2.2.2.2.2.2.2) c11_2)) (Nat.add ((c16_).toNat*8) 7) rfl (qj_ hc17) (Nat.le_of_ble_eq_true rfl) rfl)).p) <|
         ww (p:=layL [(Value.int .u64 (bOr .u64 (c18_.2.2.2.2.2.2.2) c11_2))] (Nat.add ((c16_).toNat*8) 7) (layT (rows rw_iiiiiiLu (c11_0a::c11_0t)))=layT (rows rw_iiiiiiLu (za::zt))) (by rw[←hz]; exact (ste (k:=1) (qf9_ rwf_iiiiiiLu (0,0,0,0,0,0,nl0,0) (hr:=hc18) (i:=(c16_).toNat) (j:=7) (l:=[(Value.int .u64 (bOr .u64 (c18_.2.2.2.2.2.2.2) c11_2))]) ((c18_.1),(c18_.2.1),(c18_.2.2.1),(c18_.2.2.2.1),(c18_.2.2.2.2.1),(c18_.2.2.2.2.2.1),(c18_.2.2.2.2.2.2.1),(bOr .u64 (c18_.2.2.2.2.2.2.2) c11_2)) (Nat.add ((c16_).toNat*8) 7) rfl (qj_ hc17) (Nat.le_of_ble_eq_true rfl) rfl)).q) <|
         ww (qf5_ ql_ q2_ qc_ (za::zt)) <|
         ee) (by kernel_rfl)
         have k1_:=gvLen (fn:=fun m_=>(Value.tuple #[(Value.slice (some ⟨Nat.add (2*codL (rows rw_iiiiiiLu (za::zt))+1) 64,0,some 1⟩) m_ (Nat.add big m_)),(nlV nl0),(i6 (0:Int))])) hc19 k0_
         exact k1_
        ·rw[if_neg hc12] at h
         obtain⟨hc13,h⟩:=gdD h
         obtain rfl:=oI h
         exact runF2 hm ⟨[8,9,10],[],0,0,[(0,Nat.add (2*codL (rows rw_iiiiiiLu (c11_0a::c11_0t))+1) 64)],true,[],[],[9]⟩ (k0 <|
          k2 <|
          k5 <|
          k8 <|
          k10 <|
          k19 <|
          zz 64 (xdF hc12) <|
          ww (qf5_ ql_ q2_ qc_ (c11_0a::c11_0t)) <|
          ee) (by kernel_rfl)
       | cons c11_1a c11_1t=>
        dsimp only at h
        have k19:=fun {A L l} (k:PL A L l)=>ww (qbz_ n (rnd:=none) a0 a1 a3 (((a3).l.length:Nat):Int) ((c7_a::c7_t),([]:List Int),c10_,0) ((c11_0a::c11_0t),(c11_1a::c11_1t),c11_2) hc11) <|
         ww (qb_ rwf_iiiiiiLu (c7_a::c7_t) 46) <|
         ll 60 ⟨(kW [0,1,8,9,13,48,49,50] [(0,0,true)] 2 0),(qk_ a0 a1 a3 (((a3).l.length:Nat):Int) ((c11_0a::c11_0t),(c11_1a::c11_1t),c11_2)).1,(qk_ a0 a1 a3 (((a3).l.length:Nat):Int) ((c11_0a::c11_0t),(c11_1a::c11_1t),c11_2)).2⟩ <|
         k
        by_cases hc12:a1 > 0
        ·rw[if_pos hc12] at h
         obtain⟨c13_,hc13,h⟩:=oB h
         obtain⟨hc14,h⟩:=gd h
         obtain⟨hc15,h⟩:=gd h
         obtain⟨c16_,hc16,h⟩:=oB h
         obtain⟨hc17,h⟩:=gd h
         obtain⟨c18_,hc18,h⟩:=oB h
         obtain⟨hc19,h⟩:=gdD h
         replace h:=gd h
         obtain⟨hc20,h⟩:=h
         replace h:=gdD h
         obtain⟨hc21,h⟩:=h
         have hr:=oI h
         rw[←hr]
         clear hr h
         obtain⟨za,zt,hz⟩:∃ a t,(((c11_0a::c11_0t)).set (c16_).toNat ((c18_.1),(c18_.2.1),(c18_.2.2.1),(c18_.2.2.2.1),(c18_.2.2.2.2.1),(c18_.2.2.2.2.2.1),(c18_.2.2.2.2.2.2.1),(bOr .u64 (c18_.2.2.2.2.2.2.2) c11_2)))=a::t:=qmn_
         revert hc21
         rw[hz]
         intro hc21
         try rw[hz] at hc20
         try rw[hz] at k0
         try rw[hz] at k2
         try rw[hz] at k5
         try rw[hz] at k8
         try rw[hz] at k10
         try rw[hz] at k19
         have k0_:Gv P (.func 6) (qhe_ a0 a1 a2 a3) (qhf_ a0 a1 a2 a3) (Value.tuple #[(Value.slice (some ⟨Nat.add (2*codL (rows rw_iiiiiiLu (za::zt))+1) 64,0,some 1⟩) (((c11_0a::c11_0t)).length) (Nat.add big (((c11_0a::c11_0t)).length))),(nlV (frzL (c11_1a::c11_1t) hc19)),(i6 (0:Int))]) (qga_ a0 a1 a2 a3 ((frzR qc_ (za::zt) hc21),(frzL (c11_1a::c11_1t) hc19),0)):=runF2 hm ⟨[8,9,10],[],0,0,[(1,Nat.add (2*cod (c11_1a::c11_1t)+1) 64),(0,Nat.add (2*codL (rows rw_iiiiiiLu (za::zt))+1) 64)],true,[],[],[]⟩ (k0 <|
         k2 <|
         k5 <|
         k8 <|
         k10 <|
         k19 <|
         zz 64 (xdT hc12) <|
         yy 68 (.call (qke_ a0 c13_ [] [])) <|
         ww (qhp_ n a0 c13_ hc13) <|
         zz 70 (xk8 (Nat.add (c13_).num 64) (c13_).off (c13_).cap hc14) <|
         zz 71 (nk9 hc16 hc15) <|
         zz 72 (xk3 0 U8 hc17) <|
         zz 74 (ok20 hc18 (qj_ hc17)) <|
         zz 77 (xk3 0 U8 hc17) <|
         yy 79 (.sto (layT (rows rw_iiiiiiLu (za::zt)))) <|
         ww (p:=∃ old,rdT (layT (rows rw_iiiiiiLu (c11_0a::c11_0t))) 1 (Nat.add ((c16_).toNat*8) 7)=some old) ((ste (k:=1) (qf9_ rwf_iiiiiiLu (0,0,0,0,0,0,nl0,0) (hr:=hc18) (i:=(c16_).toNat) (j:=7) (l:=[(Value.int .u64 (bOr .u64 (c18_.2.2.2.2.2.2.2) c11_2))]) ((c18_.1),(c18_.2.1),(c18_.2.2.1),(c18_.2.2.2.1),(c18_.2.2.2.2.1),(c18_.2.2.2.2.2.1),(c18_.2.2.2.2.2.2.1),(bOr .u64 (c18_.2.2.2.2.2.2.2) c11_2)) (Nat.add ((c16_).toNat*8) 7) rfl (qj_ hc17) (Nat.le_of_ble_eq_true rfl) rfl)).p) <|
         ww (p:=layL [(Value.int .u64 (bOr .u64 (c18_.2.2.2.2.2.2.2) c11_2))] (Nat.add ((c16_).toNat*8) 7) (layT (rows rw_iiiiiiLu (c11_0a::c11_0t)))=layT (rows rw_iiiiiiLu (za::zt))) (by rw[←hz]; exact (ste (k:=1) (qf9_ rwf_iiiiiiLu (0,0,0,0,0,0,nl0,0) (hr:=hc18) (i:=(c16_).toNat) (j:=7) (l:=[(Value.int .u64 (bOr .u64 (c18_.2.2.2.2.2.2.2) c11_2))]) ((c18_.1),(c18_.2.1),(c18_.2.2.1),(c18_.2.2.2.1),(c18_.2.2.2.2.1),(c18_.2.2.2.2.2.1),(c18_.2.2.2.2.2.2.1),(bOr .u64 (c18_.2.2.2.2.2.2.2) c11_2)) (Nat.add ((c16_).toNat*8) 7) rfl (qj_ hc17) (Nat.le_of_ble_eq_true rfl) rfl)).q) <|
         ww (qon_ ql_ q2_ (c11_1a::c11_1t)) <|
         ww (qf5_ ql_ q2_ qc_ (za::zt)) <|
         ee) (by kernel_rfl)
         have k1_:=gvLen (fn:=fun m_=>(Value.tuple #[(Value.slice (some ⟨Nat.add (2*codL (rows rw_iiiiiiLu (za::zt))+1) 64,0,some 1⟩) m_ (Nat.add big m_)),(nlV (frzL (c11_1a::c11_1t) hc19)),(i6 (0:Int))])) hc20 k0_
         exact k1_
        ·rw[if_neg hc12] at h
         obtain⟨hc13,h⟩:=gdD h
         replace h:=gdD h
         obtain⟨hc14,h⟩:=h
         obtain rfl:=oI h
         exact runF2 hm ⟨[8,9,10],[],0,0,[(1,Nat.add (2*cod (c11_1a::c11_1t)+1) 64),(0,Nat.add (2*codL (rows rw_iiiiiiLu (c11_0a::c11_0t))+1) 64)],true,[],[],[]⟩ (k0 <|
          k2 <|
          k5 <|
          k8 <|
          k10 <|
          k19 <|
          zz 64 (xdF hc12) <|
          ww (qon_ ql_ q2_ (c11_1a::c11_1t)) <|
          ww (qf5_ ql_ q2_ qc_ (c11_0a::c11_0t)) <|
          ee) (by kernel_rfl)
   ·rw[if_neg hc6] at h
    obtain rfl:=oI h
    exact runF2 hm ⟨[8,9,10],[],0,0,[],true,[],[],[8,9]⟩ (k0 <|
     k2 <|
     k5 <|
     yy 28 (vt) <|
     ww (p:=(Value.bool (!c5_))=(Value.bool true)) (vBn (Bool.eq_false_iff.2 hc6)) <|
     ee) (by kernel_rfl)
  ·rw[if_neg hc4] at h
   obtain rfl:=oI h
   exact runF2 hm ⟨[8,9,10],[],0,0,[],true,[],[],[8,9]⟩ (k0 <|
    k2 <|
    zz 20 (xnT hc4) <|
    ee) (by kernel_rfl)
 ·rw[if_neg hc2] at h
  obtain rfl:=oI h
  exact runF2 hm ⟨[8,9,10],[],0,0,[],true,[],[],[8,9]⟩ (k0 <|
   zz 11 (xnT hc2) <|
   ee) (by kernel_rfl)

def qld_ (a0:Int)(r:Bool):Value:=match r with
 | o0=>(bO o0)
def qle_ (a0:Int)(r:Bool):AH:=match r with
 | o0=>⟨sB [],0,0⟩
abbrev qsb_ (a0:Int)(r:Bool):Prop:=Gv P (.func 62) [(i6 a0)] ⟨sB [],0,0⟩ (qld_ a0 r) (qle_ a0 r)
abbrev qb0_ (a0:Int)(r:Bool)(ins outs:BL):CallA:=⟨0,ins,qld_ a0 r,qle_ a0 r,outs⟩
def qy_ (n:Nat)(a0:Int):Option (Bool):=
 if a0=1 then
  some false
 else
  if a0=2 then
   some false
  else
   some true
theorem qbb_ (n:Nat)(a0:Int)(r:Bool)(h:qy_ n a0=some r):qsb_ a0 r:=by
 unfold qy_ at h
 by_cases hc1:a0=1
 ·rw[if_pos hc1] at h
  obtain rfl:=oI h
  exact runF2 hm (kW [2] [] 0 0) (zz 4 (xnF hc1) <|
   ee) (by kernel_rfl)
 ·rw[if_neg hc1] at h
  have k0:=fun {A L l} (k:PL A L l)=>zz 4 (xnT hc1) <|
   k
  by_cases hc2:a0=2
  ·rw[if_pos hc2] at h
   obtain rfl:=oI h
   exact runF2 hm (kW [2] [] 0 0) (k0 <|
    zz 7 (xnF hc2) <|
    ee) (by kernel_rfl)
  ·rw[if_neg hc2] at h
   obtain rfl:=oI h
   exact runF2 hm (kW [2] [] 0 0) (k0 <|
    zz 7 (xnT hc2) <|
    ee) (by kernel_rfl)

def qlf_ (a0 a1 a2 a3 a4 a5:Int)(a6:NL)(a7:Int)(r:Bool):Value:=match r with
 | o0=>(bO o0)
def qlg_ (a0 a1 a2 a3 a4 a5:Int)(a6:NL)(a7:Int)(r:Bool):AH:=match r with
 | o0=>⟨sB [],0,0⟩
abbrev qsc_ (a0 a1 a2 a3 a4 a5:Int)(a6:NL)(a7:Int)(r:Bool):Prop:=Gv P (.func 54) [(Value.agg #[(i6 a0),(i6 a1),(i6 a2),(i6 a3),(i6 a4),(i6 a5),(nlV a6),(Value.int .u64 a7)])] ⟨sB [],0,0⟩ (qlf_ a0 a1 a2 a3 a4 a5 a6 a7 r) (qlg_ a0 a1 a2 a3 a4 a5 a6 a7 r)
abbrev qsd_ (a0 a1 a2 a3 a4 a5:Int)(a6:NL)(a7:Int)(r:Bool)(ins outs:BL):CallA:=⟨0,ins,qlf_ a0 a1 a2 a3 a4 a5 a6 a7 r,qlg_ a0 a1 a2 a3 a4 a5 a6 a7 r,outs⟩
def q9_ (n:Nat)(a0 a1 a2 a3 a4 a5:Int)(a6:NL)(a7:Int):Option (Bool):=
 if a1<1 then
  some false
 else
  if a1 > 6 then
   some false
  else
   if a2<0 then
    some false
   else
    if a2 > a4 then
     some false
    else
     if a5≤a2 then
      some false
     else
      if a1=3 then
       if a3<a2 then
        some false
       else
        if a3 > a4 then
         some false
        else
         if a1=4 then
          if a2=a4 then
           (qy_ n a1).bind fun c11_=>
           if c11_=true then
            if (((a6).l.length:Nat):Int)=0 then
             some true
            else
             some false
           else
            some true
          else
           some false
         else
          (qy_ n a1).bind fun c10_=>
          if c10_=true then
           if (((a6).l.length:Nat):Int)=0 then
            some true
           else
            some false
          else
           some true
      else
       if a1=5 then
        if a3<a2 then
         some false
        else
         if a3 > a4 then
          some false
         else
          if a1=4 then
           if a2=a4 then
            (qy_ n a1).bind fun c12_=>
            if c12_=true then
             if (((a6).l.length:Nat):Int)=0 then
              some true
             else
              some false
            else
             some true
           else
            some false
          else
           (qy_ n a1).bind fun c11_=>
           if c11_=true then
            if (((a6).l.length:Nat):Int)=0 then
             some true
            else
             some false
           else
            some true
       else
        if a1=6 then
         if a3<a2 then
          some false
         else
          if a3 > a4 then
           some false
          else
           if a1=4 then
            if a2=a4 then
             (qy_ n a1).bind fun c13_=>
             if c13_=true then
              if (((a6).l.length:Nat):Int)=0 then
               some true
              else
               some false
             else
              some true
            else
             some false
           else
            (qy_ n a1).bind fun c12_=>
            if c12_=true then
             if (((a6).l.length:Nat):Int)=0 then
              some true
             else
              some false
            else
             some true
        else
         if a3=a2 then
          if a1=4 then
           if a2=a4 then
            (qy_ n a1).bind fun c12_=>
            if c12_=true then
             if (((a6).l.length:Nat):Int)=0 then
              some true
             else
              some false
            else
             some true
           else
            some false
          else
           (qy_ n a1).bind fun c11_=>
           if c11_=true then
            if (((a6).l.length:Nat):Int)=0 then
             some true
            else
             some false
           else
            some true
         else
          some false
theorem qpl_ (n:Nat)(a0 a1 a2 a3 a4 a5:Int)(a6:NL)(a7:Int)(r:Bool)(h:q9_ n a0 a1 a2 a3 a4 a5 a6 a7=some r):qsc_ a0 a1 a2 a3 a4 a5 a6 a7 r:=by
 unfold q9_ at h
 by_cases hc1:a1<1
 ·rw[if_pos hc1] at h
  obtain rfl:=oI h
  exact runF2 hm (kW [2] [] 0 0) (zz 7 (xdT hc1) <|
   ee) (by kernel_rfl)
 ·rw[if_neg hc1] at h
  have k0:=fun {A L l} (k:PL A L l)=>zz 7 (xdF hc1) <|
   k
  by_cases hc2:a1 > 6
  ·rw[if_pos hc2] at h
   obtain rfl:=oI h
   exact runF2 hm (kW [2] [] 0 0) (k0 <|
    zz 11 (xdT hc2) <|
    ee) (by kernel_rfl)
  ·rw[if_neg hc2] at h
   have k1:=fun {A L l} (k:PL A L l)=>zz 11 (xdF hc2) <|
    k
   by_cases hc3:a2<0
   ·rw[if_pos hc3] at h
    obtain rfl:=oI h
    exact runF2 hm (kW [2] [] 0 0) (k0 <|
     k1 <|
     zz 16 (xdT hc3) <|
     ee) (by kernel_rfl)
   ·rw[if_neg hc3] at h
    have k2:=fun {A L l} (k:PL A L l)=>zz 16 (xdF hc3) <|
     k
    by_cases hc4:a2 > a4
    ·rw[if_pos hc4] at h
     obtain rfl:=oI h
     exact runF2 hm (kW [2] [] 0 0) (k0 <|
      k1 <|
      k2 <|
      zz 23 (xdT hc4) <|
      ee) (by kernel_rfl)
    ·rw[if_neg hc4] at h
     have k3:=fun {A L l} (k:PL A L l)=>zz 23 (xdF hc4) <|
      k
     by_cases hc5:a5≤a2
     ·rw[if_pos hc5] at h
      obtain rfl:=oI h
      exact runF2 hm (kW [2] [] 0 0) (k0 <|
       k1 <|
       k2 <|
       k3 <|
       zz 30 (xdT hc5) <|
       ee) (by kernel_rfl)
     ·rw[if_neg hc5] at h
      have k4:=fun {A L l} (k:PL A L l)=>zz 30 (xdF hc5) <|
       k
      by_cases hc6:a1=3
      ·rw[if_pos hc6] at h
       have k5:=fun {A L l} (k:PL A L l)=>zz 36 (xeT hc6) <|
        k
       by_cases hc7:a3<a2
       ·rw[if_pos hc7] at h
        obtain rfl:=oI h
        exact runF2 hm (kW [2] [] 0 0) (k0 <|
         k1 <|
         k2 <|
         k3 <|
         k4 <|
         k5 <|
         zz 56 (xdT hc7) <|
         ee) (by kernel_rfl)
       ·rw[if_neg hc7] at h
        have k6:=fun {A L l} (k:PL A L l)=>zz 56 (xdF hc7) <|
         k
        by_cases hc8:a3 > a4
        ·rw[if_pos hc8] at h
         obtain rfl:=oI h
         exact runF2 hm (kW [2] [] 0 0) (k0 <|
          k1 <|
          k2 <|
          k3 <|
          k4 <|
          k5 <|
          k6 <|
          zz 62 (xdT hc8) <|
          ee) (by kernel_rfl)
        ·rw[if_neg hc8] at h
         have k7:=fun {A L l} (k:PL A L l)=>zz 62 (xdF hc8) <|
          k
         by_cases hc9:a1=4
         ·rw[if_pos hc9] at h
          have k8:=fun {A L l} (k:PL A L l)=>zz 80 (xnF hc9) <|
           k
          by_cases hc10:a2=a4
          ·rw[if_pos hc10] at h
           obtain⟨c11_,hc11,h⟩:=oB h
           have k9:=fun {A L l} (k:PL A L l)=>zz 86 (xeT hc10) <|
            yy 91 (.call (qb0_ a1 c11_ [] [])) <|
            ww (qbb_ n a1 c11_ hc11) <|
            k
           by_cases hc12:c11_=true
           ·rw[if_pos hc12] at h
            have k12:=fun {A L l} (k:PL A L l)=>yy 92 (vf) <|
             ww (p:=(Value.bool (!c11_))=(Value.bool false)) (vBn hc12) <|
             k
            by_cases hc13:(((a6).l.length:Nat):Int)=0
            ·rw[if_pos hc13] at h
             obtain rfl:=oI h
             exact runF2 hm (kW [2] [] 0 0) (k0 <|
              k1 <|
              k2 <|
              k3 <|
              k4 <|
              k5 <|
              k6 <|
              k7 <|
              k8 <|
              k9 <|
              k12 <|
              zz 97 (xeT hc13) <|
              ee) (by kernel_rfl)
            ·rw[if_neg hc13] at h
             obtain rfl:=oI h
             exact runF2 hm (kW [2] [] 0 0) (k0 <|
              k1 <|
              k2 <|
              k3 <|
              k4 <|
              k5 <|
              k6 <|
              k7 <|
              k8 <|
              k9 <|
              k12 <|
              zz 97 (xeF hc13) <|
              ee) (by kernel_rfl)
           ·rw[if_neg hc12] at h
            obtain rfl:=oI h
            exact runF2 hm (kW [2] [] 0 0) (k0 <|
             k1 <|
             k2 <|
             k3 <|
             k4 <|
             k5 <|
             k6 <|
             k7 <|
             k8 <|
             k9 <|
             yy 92 (vt) <|
             ww (p:=(Value.bool (!c11_))=(Value.bool true)) (vBn (Bool.eq_false_iff.2 hc12)) <|
             ee) (by kernel_rfl)
          ·rw[if_neg hc10] at h
           obtain rfl:=oI h
           exact runF2 hm (kW [2] [] 0 0) (k0 <|
            k1 <|
            k2 <|
            k3 <|
            k4 <|
            k5 <|
            k6 <|
            k7 <|
            k8 <|
            zz 86 (xeF hc10) <|
            ee) (by kernel_rfl)
         ·rw[if_neg hc9] at h
          obtain⟨c10_,hc10,h⟩:=oB h
          have k8:=fun {A L l} (k:PL A L l)=>zz 80 (xnT hc9) <|
           yy 91 (.call (qb0_ a1 c10_ [] [])) <|
           ww (qbb_ n a1 c10_ hc10) <|
           k
          by_cases hc11:c10_=true
          ·rw[if_pos hc11] at h
           have k11:=fun {A L l} (k:PL A L l)=>yy 92 (vf) <|
            ww (p:=(Value.bool (!c10_))=(Value.bool false)) (vBn hc11) <|
            k
           by_cases hc12:(((a6).l.length:Nat):Int)=0
           ·rw[if_pos hc12] at h
            obtain rfl:=oI h
            exact runF2 hm (kW [2] [] 0 0) (k0 <|
             k1 <|
             k2 <|
             k3 <|
             k4 <|
             k5 <|
             k6 <|
             k7 <|
             k8 <|
             k11 <|
             zz 97 (xeT hc12) <|
             ee) (by kernel_rfl)
           ·rw[if_neg hc12] at h
            obtain rfl:=oI h
            exact runF2 hm (kW [2] [] 0 0) (k0 <|
             k1 <|
             k2 <|
             k3 <|
             k4 <|
             k5 <|
             k6 <|
             k7 <|
             k8 <|
             k11 <|
             zz 97 (xeF hc12) <|
             ee) (by kernel_rfl)
          ·rw[if_neg hc11] at h
           obtain rfl:=oI h
           exact runF2 hm (kW [2] [] 0 0) (k0 <|
            k1 <|
            k2 <|
            k3 <|
            k4 <|
            k5 <|
            k6 <|
            k7 <|
            k8 <|
            yy 92 (vt) <|
            ww (p:=(Value.bool (!c10_))=(Value.bool true)) (vBn (Bool.eq_false_iff.2 hc11)) <|
            ee) (by kernel_rfl)
      ·rw[if_neg hc6] at h
       have k5:=fun {A L l} (k:PL A L l)=>zz 36 (xeF hc6) <|
        k
       by_cases hc7:a1=5
       ·rw[if_pos hc7] at h
        have k6:=fun {A L l} (k:PL A L l)=>zz 40 (xeT hc7) <|
         k
        by_cases hc8:a3<a2
        ·rw[if_pos hc8] at h
         obtain rfl:=oI h
         exact runF2 hm (kW [2] [] 0 0) (k0 <|
          k1 <|
          k2 <|
          k3 <|
          k4 <|
          k5 <|
          k6 <|
          zz 56 (xdT hc8) <|
          ee) (by kernel_rfl)
        ·rw[if_neg hc8] at h
         have k7:=fun {A L l} (k:PL A L l)=>zz 56 (xdF hc8) <|
          k
         by_cases hc9:a3 > a4
         ·rw[if_pos hc9] at h
          obtain rfl:=oI h
          exact runF2 hm (kW [2] [] 0 0) (k0 <|
           k1 <|
           k2 <|
           k3 <|
           k4 <|
           k5 <|
           k6 <|
           k7 <|
           zz 62 (xdT hc9) <|
           ee) (by kernel_rfl)
         ·rw[if_neg hc9] at h
          have k8:=fun {A L l} (k:PL A L l)=>zz 62 (xdF hc9) <|
           k
          by_cases hc10:a1=4
          ·rw[if_pos hc10] at h
           have k9:=fun {A L l} (k:PL A L l)=>zz 80 (xnF hc10) <|
            k
           by_cases hc11:a2=a4
           ·rw[if_pos hc11] at h
            obtain⟨c12_,hc12,h⟩:=oB h
            have k10:=fun {A L l} (k:PL A L l)=>zz 86 (xeT hc11) <|
             yy 91 (.call (qb0_ a1 c12_ [] [])) <|
             ww (qbb_ n a1 c12_ hc12) <|
             k
            by_cases hc13:c12_=true
            ·rw[if_pos hc13] at h
             have k13:=fun {A L l} (k:PL A L l)=>yy 92 (vf) <|
              ww (p:=(Value.bool (!c12_))=(Value.bool false)) (vBn hc13) <|
              k
             by_cases hc14:(((a6).l.length:Nat):Int)=0
             ·rw[if_pos hc14] at h
              obtain rfl:=oI h
              exact runF2 hm (kW [2] [] 0 0) (k0 <|
               k1 <|
               k2 <|
               k3 <|
               k4 <|
               k5 <|
               k6 <|
               k7 <|
               k8 <|
               k9 <|
               k10 <|
               k13 <|
               zz 97 (xeT hc14) <|
               ee) (by kernel_rfl)
             ·rw[if_neg hc14] at h
              obtain rfl:=oI h
              exact runF2 hm (kW [2] [] 0 0) (k0 <|
               k1 <|
               k2 <|
               k3 <|
               k4 <|
               k5 <|
               k6 <|
               k7 <|
               k8 <|
               k9 <|
               k10 <|
               k13 <|
               zz 97 (xeF hc14) <|
               ee) (by kernel_rfl)
            ·rw[if_neg hc13] at h
             obtain rfl:=oI h
             exact runF2 hm (kW [2] [] 0 0) (k0 <|
              k1 <|
              k2 <|
              k3 <|
              k4 <|
              k5 <|
              k6 <|
              k7 <|
              k8 <|
              k9 <|
              k10 <|
              yy 92 (vt) <|
              ww (p:=(Value.bool (!c12_))=(Value.bool true)) (vBn (Bool.eq_false_iff.2 hc13)) <|
              ee) (by kernel_rfl)
           ·rw[if_neg hc11] at h
            obtain rfl:=oI h
            exact runF2 hm (kW [2] [] 0 0) (k0 <|
             k1 <|
             k2 <|
             k3 <|
             k4 <|
             k5 <|
             k6 <|
             k7 <|
             k8 <|
             k9 <|
             zz 86 (xeF hc11) <|
             ee) (by kernel_rfl)
          ·rw[if_neg hc10] at h
           obtain⟨c11_,hc11,h⟩:=oB h
           have k9:=fun {A L l} (k:PL A L l)=>zz 80 (xnT hc10) <|
            yy 91 (.call (qb0_ a1 c11_ [] [])) <|
            ww (qbb_ n a1 c11_ hc11) <|
            k
           by_cases hc12:c11_=true
           ·rw[if_pos hc12] at h
            have k12:=fun {A L l} (k:PL A L l)=>yy 92 (vf) <|
             ww (p:=(Value.bool (!c11_))=(Value.bool false)) (vBn hc12) <|
             k
            by_cases hc13:(((a6).l.length:Nat):Int)=0
            ·rw[if_pos hc13] at h
             obtain rfl:=oI h
             exact runF2 hm (kW [2] [] 0 0) (k0 <|
              k1 <|
              k2 <|
              k3 <|
              k4 <|
              k5 <|
              k6 <|
              k7 <|
              k8 <|
              k9 <|
              k12 <|
              zz 97 (xeT hc13) <|
              ee) (by kernel_rfl)
            ·rw[if_neg hc13] at h
             obtain rfl:=oI h
             exact runF2 hm (kW [2] [] 0 0) (k0 <|
              k1 <|
              k2 <|
              k3 <|
              k4 <|
              k5 <|
              k6 <|
              k7 <|
              k8 <|
              k9 <|
              k12 <|
              zz 97 (xeF hc13) <|
              ee) (by kernel_rfl)
           ·rw[if_neg hc12] at h
            obtain rfl:=oI h
            exact runF2 hm (kW [2] [] 0 0) (k0 <|
             k1 <|
             k2 <|
             k3 <|
             k4 <|
             k5 <|
             k6 <|
             k7 <|
             k8 <|
             k9 <|
             yy 92 (vt) <|
             ww (p:=(Value.bool (!c11_))=(Value.bool true)) (vBn (Bool.eq_false_iff.2 hc12)) <|
             ee) (by kernel_rfl)
       ·rw[if_neg hc7] at h
        have k6:=fun {A L l} (k:PL A L l)=>zz 40 (xeF hc7) <|
         k
        by_cases hc8:a1=6
        ·rw[if_pos hc8] at h
         have k7:=fun {A L l} (k:PL A L l)=>zz 45 (xeT hc8) <|
          k
         by_cases hc9:a3<a2
         ·rw[if_pos hc9] at h
          obtain rfl:=oI h
          exact runF2 hm (kW [2] [] 0 0) (k0 <|
           k1 <|
           k2 <|
           k3 <|
           k4 <|
           k5 <|
           k6 <|
           k7 <|
           zz 56 (xdT hc9) <|
           ee) (by kernel_rfl)
         ·rw[if_neg hc9] at h
          have k8:=fun {A L l} (k:PL A L l)=>zz 56 (xdF hc9) <|
           k
          by_cases hc10:a3 > a4
          ·rw[if_pos hc10] at h
           obtain rfl:=oI h
           exact runF2 hm (kW [2] [] 0 0) (k0 <|
            k1 <|
            k2 <|
            k3 <|
            k4 <|
            k5 <|
            k6 <|
            k7 <|
            k8 <|
            zz 62 (xdT hc10) <|
            ee) (by kernel_rfl)
          ·rw[if_neg hc10] at h
           have k9:=fun {A L l} (k:PL A L l)=>zz 62 (xdF hc10) <|
            k
           by_cases hc11:a1=4
           ·rw[if_pos hc11] at h
            have k10:=fun {A L l} (k:PL A L l)=>zz 80 (xnF hc11) <|
             k
            by_cases hc12:a2=a4
            ·rw[if_pos hc12] at h
             obtain⟨c13_,hc13,h⟩:=oB h
             have k11:=fun {A L l} (k:PL A L l)=>zz 86 (xeT hc12) <|
              yy 91 (.call (qb0_ a1 c13_ [] [])) <|
              ww (qbb_ n a1 c13_ hc13) <|
              k
             by_cases hc14:c13_=true
             ·rw[if_pos hc14] at h
              have k14:=fun {A L l} (k:PL A L l)=>yy 92 (vf) <|
               ww (p:=(Value.bool (!c13_))=(Value.bool false)) (vBn hc14) <|
               k
              by_cases hc15:(((a6).l.length:Nat):Int)=0
              ·rw[if_pos hc15] at h
               obtain rfl:=oI h
               exact runF2 hm (kW [2] [] 0 0) (k0 <|
                k1 <|
                k2 <|
                k3 <|
                k4 <|
                k5 <|
                k6 <|
                k7 <|
                k8 <|
                k9 <|
                k10 <|
                k11 <|
                k14 <|
                zz 97 (xeT hc15) <|
                ee) (by kernel_rfl)
              ·rw[if_neg hc15] at h
               obtain rfl:=oI h
               exact runF2 hm (kW [2] [] 0 0) (k0 <|
                k1 <|
                k2 <|
                k3 <|
                k4 <|
                k5 <|
                k6 <|
                k7 <|
                k8 <|
                k9 <|
                k10 <|
                k11 <|
                k14 <|
                zz 97 (xeF hc15) <|
                ee) (by kernel_rfl)
             ·rw[if_neg hc14] at h
              obtain rfl:=oI h
              exact runF2 hm (kW [2] [] 0 0) (k0 <|
               k1 <|
               k2 <|
               k3 <|
               k4 <|
               k5 <|
               k6 <|
               k7 <|
               k8 <|
               k9 <|
               k10 <|
               k11 <|
               yy 92 (vt) <|
               ww (p:=(Value.bool (!c13_))=(Value.bool true)) (vBn (Bool.eq_false_iff.2 hc14)) <|
               ee) (by kernel_rfl)
            ·rw[if_neg hc12] at h
             obtain rfl:=oI h
             exact runF2 hm (kW [2] [] 0 0) (k0 <|
              k1 <|
              k2 <|
              k3 <|
              k4 <|
              k5 <|
              k6 <|
              k7 <|
              k8 <|
              k9 <|
              k10 <|
              zz 86 (xeF hc12) <|
              ee) (by kernel_rfl)
           ·rw[if_neg hc11] at h
            obtain⟨c12_,hc12,h⟩:=oB h
            have k10:=fun {A L l} (k:PL A L l)=>zz 80 (xnT hc11) <|
             yy 91 (.call (qb0_ a1 c12_ [] [])) <|
             ww (qbb_ n a1 c12_ hc12) <|
             k
            by_cases hc13:c12_=true
            ·rw[if_pos hc13] at h
             have k13:=fun {A L l} (k:PL A L l)=>yy 92 (vf) <|
              ww (p:=(Value.bool (!c12_))=(Value.bool false)) (vBn hc13) <|
              k
             by_cases hc14:(((a6).l.length:Nat):Int)=0
             ·rw[if_pos hc14] at h
              obtain rfl:=oI h
              exact runF2 hm (kW [2] [] 0 0) (k0 <|
               k1 <|
               k2 <|
               k3 <|
               k4 <|
               k5 <|
               k6 <|
               k7 <|
               k8 <|
               k9 <|
               k10 <|
               k13 <|
               zz 97 (xeT hc14) <|
               ee) (by kernel_rfl)
             ·rw[if_neg hc14] at h
              obtain rfl:=oI h
              exact runF2 hm (kW [2] [] 0 0) (k0 <|
               k1 <|
               k2 <|
               k3 <|
               k4 <|
               k5 <|
               k6 <|
               k7 <|
               k8 <|
               k9 <|
               k10 <|
               k13 <|
               zz 97 (xeF hc14) <|
               ee) (by kernel_rfl)
            ·rw[if_neg hc13] at h
             obtain rfl:=oI h
             exact runF2 hm (kW [2] [] 0 0) (k0 <|
              k1 <|
              k2 <|
              k3 <|
              k4 <|
              k5 <|
              k6 <|
              k7 <|
              k8 <|
              k9 <|
              k10 <|
              yy 92 (vt) <|
              ww (p:=(Value.bool (!c12_))=(Value.bool true)) (vBn (Bool.eq_false_iff.2 hc13)) <|
              ee) (by kernel_rfl)
        ·rw[if_neg hc8] at h
         have k7:=fun {A L l} (k:PL A L l)=>zz 45 (xeF hc8) <|
          k
         by_cases hc9:a3=a2
         ·rw[if_pos hc9] at h
          have k8:=fun {A L l} (k:PL A L l)=>zz 73 (xnF hc9) <|
           k
          by_cases hc10:a1=4
          ·rw[if_pos hc10] at h
           have k9:=fun {A L l} (k:PL A L l)=>zz 80 (xnF hc10) <|
            k
           by_cases hc11:a2=a4
           ·rw[if_pos hc11] at h
            obtain⟨c12_,hc12,h⟩:=oB h
            have k10:=fun {A L l} (k:PL A L l)=>zz 86 (xeT hc11) <|
             yy 91 (.call (qb0_ a1 c12_ [] [])) <|
             ww (qbb_ n a1 c12_ hc12) <|
             k
            by_cases hc13:c12_=true
            ·rw[if_pos hc13] at h
             have k13:=fun {A L l} (k:PL A L l)=>yy 92 (vf) <|
              ww (p:=(Value.bool (!c12_))=(Value.bool false)) (vBn hc13) <|
              k
             by_cases hc14:(((a6).l.length:Nat):Int)=0
             ·rw[if_pos hc14] at h
              obtain rfl:=oI h
              exact runF2 hm (kW [2] [] 0 0) (k0 <|
               k1 <|
               k2 <|
               k3 <|
               k4 <|
               k5 <|
               k6 <|
               k7 <|
               k8 <|
               k9 <|
               k10 <|
               k13 <|
               zz 97 (xeT hc14) <|
               ee) (by kernel_rfl)
             ·rw[if_neg hc14] at h
              obtain rfl:=oI h
              exact runF2 hm (kW [2] [] 0 0) (k0 <|
               k1 <|
               k2 <|
               k3 <|
               k4 <|
               k5 <|
               k6 <|
               k7 <|
               k8 <|
               k9 <|
               k10 <|
               k13 <|
               zz 97 (xeF hc14) <|
               ee) (by kernel_rfl)
            ·rw[if_neg hc13] at h
             obtain rfl:=oI h
             exact runF2 hm (kW [2] [] 0 0) (k0 <|
              k1 <|
              k2 <|
              k3 <|
              k4 <|
              k5 <|
              k6 <|
              k7 <|
              k8 <|
              k9 <|
              k10 <|
              yy 92 (vt) <|
              ww (p:=(Value.bool (!c12_))=(Value.bool true)) (vBn (Bool.eq_false_iff.2 hc13)) <|
              ee) (by kernel_rfl)
           ·rw[if_neg hc11] at h
            obtain rfl:=oI h
            exact runF2 hm (kW [2] [] 0 0) (k0 <|
             k1 <|
             k2 <|
             k3 <|
             k4 <|
             k5 <|
             k6 <|
             k7 <|
             k8 <|
             k9 <|
             zz 86 (xeF hc11) <|
             ee) (by kernel_rfl)
          ·rw[if_neg hc10] at h
           obtain⟨c11_,hc11,h⟩:=oB h
           have k9:=fun {A L l} (k:PL A L l)=>zz 80 (xnT hc10) <|
            yy 91 (.call (qb0_ a1 c11_ [] [])) <|
            ww (qbb_ n a1 c11_ hc11) <|
            k
           by_cases hc12:c11_=true
           ·rw[if_pos hc12] at h
            have k12:=fun {A L l} (k:PL A L l)=>yy 92 (vf) <|
             ww (p:=(Value.bool (!c11_))=(Value.bool false)) (vBn hc12) <|
             k
            by_cases hc13:(((a6).l.length:Nat):Int)=0
            ·rw[if_pos hc13] at h
             obtain rfl:=oI h
             exact runF2 hm (kW [2] [] 0 0) (k0 <|
              k1 <|
              k2 <|
              k3 <|
              k4 <|
              k5 <|
              k6 <|
              k7 <|
              k8 <|
              k9 <|
              k12 <|
              zz 97 (xeT hc13) <|
              ee) (by kernel_rfl)
            ·rw[if_neg hc13] at h
             obtain rfl:=oI h
             exact runF2 hm (kW [2] [] 0 0) (k0 <|
              k1 <|
              k2 <|
              k3 <|
              k4 <|
              k5 <|
              k6 <|
              k7 <|
              k8 <|
              k9 <|
              k12 <|
              zz 97 (xeF hc13) <|
              ee) (by kernel_rfl)
           ·rw[if_neg hc12] at h
            obtain rfl:=oI h
            exact runF2 hm (kW [2] [] 0 0) (k0 <|
             k1 <|
             k2 <|
             k3 <|
             k4 <|
             k5 <|
             k6 <|
             k7 <|
             k8 <|
             k9 <|
             yy 92 (vt) <|
             ww (p:=(Value.bool (!c11_))=(Value.bool true)) (vBn (Bool.eq_false_iff.2 hc12)) <|
             ee) (by kernel_rfl)
         ·rw[if_neg hc9] at h
          obtain rfl:=oI h
          exact runF2 hm (kW [2] [] 0 0) (k0 <|
           k1 <|
           k2 <|
           k3 <|
           k4 <|
           k5 <|
           k6 <|
           k7 <|
           zz 73 (xnT hc9) <|
           ee) (by kernel_rfl)

def qe0_ (a0:W8)(a1:Int):List Value:=[(wlV a0),(i6 a1)]
def qe1_ (a0:W8)(a1:Int):AH:=⟨sB [],0,0⟩
def qdv_ (a0:W8)(a1 r:Int):Value:=match r with
 | o0=>(i6 o0)
def qdw_ (a0:W8)(a1 r:Int):AH:=match r with
 | o0=>⟨sB [],0,0⟩
abbrev qtn_ (a0:W8)(a1 r:Int):Prop:=Gv P (.func 55) (qe0_ a0 a1) (qe1_ a0 a1) (qdv_ a0 a1 r) (qdw_ a0 a1 r)
abbrev qe2_ (a0:W8)(a1 r:Int)(ins outs:BL):CallA:=⟨0,ins,qdv_ a0 a1 r,qdw_ a0 a1 r,outs⟩
def qfw_ (x0:W8)(x1:Int)(st:Int×Int×Int):XSt:=match st with
 | (x2,x3,x4)=>(sT 68 [(0,(wlV x0)),(1,(i6 x1)),(5,(i6 x2)),(6,(i6 x3)),(7,(i6 x4))],[],⟨sB [],0,0⟩)
def qce_ (x0:W8)(x1:Int)(r:(Unit) ⊕ (Int×Int)):Ex×XSt:=match r with
 | .inl _=>(.ret,(sT 68 [(4,(i6 (-1:Int)))],[],⟨sB [],0,0⟩))
 | .inr (z0,z1)=>(.exit 0,(sT 68 [(0,(wlV x0)),(1,(i6 x1)),(5,(i6 z0)),(6,(i6 z1))],[],⟨sB [],0,0⟩))
abbrev qro_ (rnd:Option Nat)(x0:W8)(x1:Int)(st:Int×Int×Int)(c:Ex×XSt):Prop:=CG P rnd (fnN P 55) 0 (qp_ P 55 [false,false,true,false,true,true]) (qfw_ x0 x1 st) c
abbrev qhg_ (rd:Option Nat)(x0:W8)(x1:Int)(st:Int×Int×Int)(r:(Unit) ⊕ (Int×Int)):Prop:=CG P rd (fnN P 55) 0 (qp_ P 55 [false,true,false,true,true]) (qfw_ x0 x1 st) (qce_ x0 x1 r)
def qo_ (rec_viewportref16endq1:(W8)→(Int)→Option (Int))(n:Nat)(x0:W8)(x1:Int)(st:Int×Int×Int):Option ((Int×Int×Int) ⊕ ((Unit) ⊕ (Int×Int))):=match st with
 | (x2,x3,x4)=>
  if 0≤x1∧x1<(((x0).l.length:Nat):Int) then
   ((some (((x0).l).getD (x1).toNat (0,0,0,0,0,0,nl0,0)))).bind fun y2_=>
   if x4<((((y2_.2.2.2.2.2.2.1)).l.length:Nat):Int) then
    if 0≤x4∧x4<((((y2_.2.2.2.2.2.2.1)).l.length:Nat):Int) then
     if (x4).toNat<(((y2_.2.2.2.2.2.2.1)).l).length then
      ((some ((((y2_.2.2.2.2.2.2.1)).l).getD (x4).toNat 0))).bind fun y6_=>
      if y6_=x2 then
       if x2 ≥ (((x0).l.length:Nat):Int) then
        some (.inr (.inl ()))
       else
        if 0≤x2∧x2<(((x0).l.length:Nat):Int) then
         ((some (((x0).l).getD (x2).toNat (0,0,0,0,0,0,nl0,0)))).bind fun y10_=>
         if (y10_.2.2.1)<x3 then
          some (.inr (.inl ()))
         else
          (rec_viewportref16endq1 x0 x2).bind fun y12_=>
          if y12_<0 then
           some (.inr (.inl ()))
          else
           some (.inl (y12_,(y10_.2.2.2.2.1),(w64 (x4+1))))
        else none
      else
       some (.inr (.inl ()))
     else none
    else none
   else
    some (.inr (.inr (x2,x3)))
  else none
def qc2_ (rec_viewportref16endq1:(W8)→(Int)→Option (Int))(n:Nat)(x0:W8)(x1:Int)(st:Int×Int×Int):Option ((Unit) ⊕ (Int×Int)):=iterM (qo_ rec_viewportref16endq1 n x0 x1) n st
theorem qkq_ (rec_viewportref16endq1:(W8)→(Int)→Option (Int))(hrec_viewportref16endq1:∀ (a0:W8) (a1:Int) (r:Int),rec_viewportref16endq1 a0 a1=some r→Gv P (.func 55) (qe0_ a0 a1) (qe1_ a0 a1) (qdv_ a0 a1 r) (qdw_ a0 a1 r))(n:Nat){rnd:Option Nat}(x0:W8)(x1:Int)(st:Int×Int×Int)(o:(Int×Int×Int) ⊕ ((Unit) ⊕ (Int×Int)))(h:qo_ rec_viewportref16endq1 n x0 x1 st=some o):qro_ rnd x0 x1 st (Sum.elim (fun s=>(.normal,qfw_ x0 x1 s)) (fun r=>qce_ x0 x1 r) o):=by
 obtain⟨x2,x3,x4⟩:=st
 unfold qo_ at h
 dsimp only at h
 obtain⟨hy1,h⟩:=gd h
 obtain⟨y2_,hy2,h⟩:=oB h
 have k0:=fun {A L l} (k:PL A L l)=>zz 5 (xk1 (x0).num (x0).off (x0).cap hy1) <|
  zz 6 (fk11 (x0).num (Nat.add (x0).off ((x1).toNat*8))) <|
  zz 7 (lk12 hy2 (qj_ hy1)) <|
  k
 by_cases hy3:x4<((((y2_.2.2.2.2.2.2.1)).l.length:Nat):Int)
 ·rw[if_pos hy3] at h
  obtain⟨hy4,h⟩:=gd h
  obtain⟨hy5,h⟩:=gd h
  obtain⟨y6_,hy6,h⟩:=oB h
  have k3:=fun {A L l} (k:PL A L l)=>zz 9 (xdT hy3) <|
   zz 17 (xk1 (x0).num (x0).off (x0).cap hy1) <|
   zz 18 (fk11 (x0).num (Nat.add (x0).off ((x1).toNat*8))) <|
   zz 19 (lk12 hy2 (qj_ hy1)) <|
   zz 21 (xk8 (Nat.add ((y2_.2.2.2.2.2.2.1)).num 64) ((y2_.2.2.2.2.2.2.1)).off ((y2_.2.2.2.2.2.2.1)).cap hy4) <|
   zz 22 (nk9 hy6 hy5) <|
   k
  by_cases hy7:y6_=x2
  ·rw[if_pos hy7] at h
   have k9:=fun {A L l} (k:PL A L l)=>zz 24 (xnF hy7) <|
    k
   by_cases hy8:x2 ≥ (((x0).l.length:Nat):Int)
   ·rw[if_pos hy8] at h
    obtain rfl:=oI h
    exact runC2 hm (kW [4] [] 0 0) (k0 <|
     k3 <|
     k9 <|
     zz 29 (xdT hy8) <|
     ee) (by kernel_rfl)
   ·rw[if_neg hy8] at h
    obtain⟨hy9,h⟩:=gd h
    obtain⟨y10_,hy10,h⟩:=oB h
    have k10:=fun {A L l} (k:PL A L l)=>zz 29 (xdF hy8) <|
     zz 34 (xk1 (x0).num (x0).off (x0).cap hy9) <|
     zz 35 (fk16 (x0).num (Nat.add (x0).off ((x2).toNat*8))) <|
     zz 36 (lk17 hy10 (qj_ hy9)) <|
     k
    by_cases hy11:(y10_.2.2.1)<x3
    ·rw[if_pos hy11] at h
     obtain rfl:=oI h
     exact runC2 hm (kW [4] [] 0 0) (k0 <|
      k3 <|
      k9 <|
      k10 <|
      zz 38 (xdT hy11) <|
      ee) (by kernel_rfl)
    ·rw[if_neg hy11] at h
     obtain⟨y12_,hy12,h⟩:=oB h
     have k14:=fun {A L l} (k:PL A L l)=>zz 38 (xdF hy11) <|
      zz 44 (xk1 (x0).num (x0).off (x0).cap hy9) <|
      zz 45 (fk18 (x0).num (Nat.add (x0).off ((x2).toNat*8))) <|
      zz 46 (lk19 hy10 (qj_ hy9)) <|
      yy 51 (.call (qe2_ x0 x2 y12_ [] [])) <|
      ww (hrec_viewportref16endq1 x0 x2 y12_ hy12) <|
      k
     by_cases hy13:y12_<0
     ·rw[if_pos hy13] at h
      obtain rfl:=oI h
      exact runC2 hm (kW [4] [] 0 0) (k0 <|
       k3 <|
       k9 <|
       k10 <|
       k14 <|
       zz 55 (xdT hy13) <|
       ee) (by kernel_rfl)
     ·rw[if_neg hy13] at h
      obtain rfl:=oI h
      exact runC2 hm (kW [0,1,5,6,7] [] 0 0) (k0 <|
       k3 <|
       k9 <|
       k10 <|
       k14 <|
       zz 55 (xdF hy13) <|
       ee) (by kernel_rfl)
  ·rw[if_neg hy7] at h
   obtain rfl:=oI h
   exact runC2 hm (kW [4] [] 0 0) (k0 <|
    k3 <|
    zz 24 (xnT hy7) <|
    ee) (by kernel_rfl)
 ·rw[if_neg hy3] at h
  obtain rfl:=oI h
  exact runC2 hm (kW [0,1,5,6] [] 0 0) (k0 <|
   zz 9 (xdF hy3) <|
   ee) (by kernel_rfl)
theorem qiz_ (rec_viewportref16endq1:(W8)→(Int)→Option (Int))(hrec_viewportref16endq1:∀ (a0:W8) (a1:Int) (r:Int),rec_viewportref16endq1 a0 a1=some r→Gv P (.func 55) (qe0_ a0 a1) (qe1_ a0 a1) (qdv_ a0 a1 r) (qdw_ a0 a1 r))(n:Nat){rnd:Option Nat}(x0:W8)(x1:Int)(st:Int×Int×Int)(r:(Unit) ⊕ (Int×Int))(h:qc2_ rec_viewportref16endq1 n x0 x1 st=some r):qhg_ rnd x0 x1 st r:=
 CG.iter (b:=qp_ P 55 [false,false,true,false,true,true]) (by kernel_rfl) (body:=qo_ rec_viewportref16endq1 n x0 x1) (S:=qfw_ x0 x1) (X:=qce_ x0 x1)
  (fun s s' h=>qkq_ rec_viewportref16endq1 hrec_viewportref16endq1 n x0 x1 s (.inl s') h)
  (fun s r h=>qkq_ rec_viewportref16endq1 hrec_viewportref16endq1 n x0 x1 s (.inr r) h)
  (fun r=>by intro hx; rcases r with _ | _<;>cases hx) h
def qbp_ (rec_viewportref16endq1:(W8)→(Int)→Option (Int))(n:Nat)(a0:W8)(a1:Int):Option (Int):=
 if 0≤a1∧a1<(((a0).l.length:Nat):Int) then
  ((some (((a0).l).getD (a1).toNat (0,0,0,0,0,0,nl0,0)))).bind fun c2_=>
  match qc2_ rec_viewportref16endq1 n a0 a1 ((w64 (a1+1)),(c2_.2.2.1),0) with
  | none=>none
  | some (.inl _)=>
   some (-1)
  | some (.inr (c3_0,c3_1))=>
   if c3_1 > (c2_.2.2.2.2.1) then
    some (-1)
   else
    some c3_0
 else none
theorem qqg_ (rec_viewportref16endq1:(W8)→(Int)→Option (Int))(hrec_viewportref16endq1:∀ (a0:W8) (a1:Int) (r:Int),rec_viewportref16endq1 a0 a1=some r→Gv P (.func 55) (qe0_ a0 a1) (qe1_ a0 a1) (qdv_ a0 a1 r) (qdw_ a0 a1 r))(n:Nat)(a0:W8)(a1 r:Int)(h:qbp_ rec_viewportref16endq1 n a0 a1=some r):qtn_ a0 a1 r:=by
 unfold qbp_ at h
 obtain⟨hc1,h⟩:=gd h
 obtain⟨c2_,hc2,h⟩:=oB h
 have k0:=fun {A L l} (k:PL A L l)=>zz 7 (xk1 (a0).num (a0).off (a0).cap hc1) <|
  zz 8 (fk16 (a0).num (Nat.add (a0).off ((a1).toNat*8))) <|
  zz 9 (lk17 hc2 (qj_ hc1)) <|
  k
 rcases hc3:qc2_ rec_viewportref16endq1 n a0 a1 ((w64 (a1+1)),(c2_.2.2.1),0) with _ | (⟨⟩ | ⟨c3_0,c3_1⟩)
 ·rw[hc3] at h; cases h
 ·rw[hc3] at h
  dsimp only at h
  obtain rfl:=oI h
  exact runF2 hm (kW [4] [] 0 0) (k0 <|
   ww (p:=qhg_ none a0 a1 ((w64 (a1+1)),(c2_.2.2.1),0) (.inl ())) (qiz_ rec_viewportref16endq1 hrec_viewportref16endq1 n a0 a1 ((w64 (a1+1)),(c2_.2.2.1),0) (.inl ()) hc3) <|
   ll 16 ⟨(kW [0,1,5,6,7] [] 0 0),(qce_ a0 a1 (.inl ())).1,(qce_ a0 a1 (.inl ())).2⟩ <|
   ee) (by kernel_rfl)
 ·rw[hc3] at h
  dsimp only at h
  have k3:=fun {A L l} (k:PL A L l)=>ww (p:=qhg_ none a0 a1 ((w64 (a1+1)),(c2_.2.2.1),0) (.inr (c3_0,c3_1))) (qiz_ rec_viewportref16endq1 hrec_viewportref16endq1 n a0 a1 ((w64 (a1+1)),(c2_.2.2.1),0) (.inr (c3_0,c3_1)) hc3) <|
   ll 16 ⟨(kW [0,1,5,6,7] [] 0 0),(qce_ a0 a1 (.inr (c3_0,c3_1))).1,(qce_ a0 a1 (.inr (c3_0,c3_1))).2⟩ <|
   zz 22 (xk1 (a0).num (a0).off (a0).cap hc1) <|
   zz 23 (fk18 (a0).num (Nat.add (a0).off ((a1).toNat*8))) <|
   zz 24 (lk19 hc2 (qj_ hc1)) <|
   k
  by_cases hc4:c3_1 > (c2_.2.2.2.2.1)
  ·rw[if_pos hc4] at h
   obtain rfl:=oI h
   exact runF2 hm (kW [4] [] 0 0) (k0 <|
    k3 <|
    zz 25 (xdT hc4) <|
    ee) (by kernel_rfl)
  ·rw[if_neg hc4] at h
   obtain rfl:=oI h
   exact runF2 hm (kW [4] [] 0 0) (k0 <|
    k3 <|
    zz 25 (xdF hc4) <|
    ee) (by kernel_rfl)
def qd_:Nat→(W8)→(Int)→Option (Int)
 | 0=>fun _ _=>none
 | n+1=>fun a0 a1=>qbp_ (qd_ n) n a0 a1
theorem qdr_:∀ (n:Nat) (a0:W8) (a1:Int) (r:Int) (h:qd_ n a0 a1=some r),Gv P (.func 55) (qe0_ a0 a1) (qe1_ a0 a1) (qdv_ a0 a1 r) (qdw_ a0 a1 r)
 | 0,_,_,_,h=>nomatch h
 | n+1,a0,a1,r,h=>qqg_ (qd_ n) (qdr_ n) n a0 a1 r h

def qkr_ (a0:W8)(r:Int):Value:=match r with
 | o0=>(i6 o0)
def qks_ (a0:W8)(r:Int):AH:=match r with
 | o0=>⟨sB [],0,0⟩
abbrev qrp_ (a0:W8)(r:Int):Prop:=Gv P (.func 33) [(wlV a0)] ⟨sB [],0,0⟩ (qkr_ a0 r) (qks_ a0 r)
abbrev q1_ (a0:W8)(r:Int)(ins outs:BL):CallA:=⟨0,ins,qkr_ a0 r,qks_ a0 r,outs⟩
def qei_ (x0:W8)(st:Int):XSt:=match st with
 | x1=>(sT 41 [(0,(wlV x0)),(3,(i6 x1))],[],⟨sB [],0,0⟩)
def qbq_ (x0:W8)(r:(Unit) ⊕ (Unit)):Ex×XSt:=match r with
 | .inl _=>(.ret,(sT 41 [(2,(i6 (2:Int)))],[],⟨sB [],0,0⟩))
 | .inr _=>(.exit 0,(sT 41 [(0,(wlV x0))],[],⟨sB [],0,0⟩))
abbrev qpm_ (rd:Option Nat)(x0:W8)(st:Int)(r:(Unit) ⊕ (Unit)):Prop:=CG P rd (fnN P 33) 0 (qp_ P 33 [false,true,false,true,true]) (qei_ x0 st) (qbq_ x0 r)
def qq_ (n:Nat)(x0:W8)(st:Int):Option ((Int) ⊕ ((Unit) ⊕ (Unit))):=match st with
 | x1=>
  if x1<(((x0).l.length:Nat):Int) then
   if 0≤x1∧x1<(((x0).l.length:Nat):Int) then
    ((some (((x0).l).getD (x1).toNat (0,0,0,0,0,0,nl0,0)))).bind fun y3_=>
    (q9_ n (y3_.1) (y3_.2.1) (y3_.2.2.1) (y3_.2.2.2.1) (y3_.2.2.2.2.1) (y3_.2.2.2.2.2.1) (y3_.2.2.2.2.2.2.1) (y3_.2.2.2.2.2.2.2)).bind fun y4_=>
    if y4_=true then
     if x1 > 0 then
      if (y3_.2.1)=1 then
       some (.inr (.inl ()))
      else
       some (.inl (w64 (x1+1)))
     else
      some (.inl (w64 (x1+1)))
    else
     some (.inr (.inl ()))
   else none
  else
   some (.inr (.inr ()))
def qdb_ (n:Nat)(x0:W8)(st:Int):Option ((Unit) ⊕ (Unit)):=iterM (qq_ n x0) n st
theorem qjc_ (n:Nat){rnd:Option Nat}(x0:W8)(x1:Int)(o:(Int) ⊕ ((Unit) ⊕ (Unit)))(h:qq_ n x0 x1=some o):CG P rnd (fnN P 33) 0 (qp_ P 33 [false,false,true,false,true,true]) (qei_ x0 x1) (Sum.elim (fun s=>(.normal,qei_ x0 s)) (fun r=>qbq_ x0 r) o):=by
 unfold qq_ at h
 dsimp only at h
 by_cases hy1:x1<(((x0).l.length:Nat):Int)
 ·rw[if_pos hy1] at h
  obtain⟨hy2,h⟩:=gd h
  obtain⟨y3_,hy3,h⟩:=oB h
  obtain⟨y4_,hy4,h⟩:=oB h
  have k0:=fun {A L l} (k:PL A L l)=>zz 5 (xdT hy1) <|
   zz 12 (xk1 (x0).num (x0).off (x0).cap hy2) <|
   zz 13 (lk2 hy3 (qj_ hy2)) <|
   yy 14 (.call (qsd_ (y3_.1) (y3_.2.1) (y3_.2.2.1) (y3_.2.2.2.1) (y3_.2.2.2.2.1) (y3_.2.2.2.2.2.1) (y3_.2.2.2.2.2.2.1) (y3_.2.2.2.2.2.2.2) y4_ [] [])) <|
   ww (qpl_ n (y3_.1) (y3_.2.1) (y3_.2.2.1) (y3_.2.2.2.1) (y3_.2.2.2.2.1) (y3_.2.2.2.2.2.1) (y3_.2.2.2.2.2.2.1) (y3_.2.2.2.2.2.2.2) y4_ hy4) <|
   k
  by_cases hy5:y4_=true
  ·rw[if_pos hy5] at h
   have k5:=fun {A L l} (k:PL A L l)=>yy 15 (vf) <|
    ww (p:=(Value.bool (!y4_))=(Value.bool false)) (vBn hy5) <|
    k
   by_cases hy6:x1 > 0
   ·rw[if_pos hy6] at h
    have k7:=fun {A L l} (k:PL A L l)=>zz 18 (xdT hy6) <|
     zz 22 (xk1 (x0).num (x0).off (x0).cap hy2) <|
     zz 23 (fk21 (x0).num (Nat.add (x0).off ((x1).toNat*8))) <|
     zz 24 (lk22 hy3 (qj_ hy2)) <|
     k
    by_cases hy7:(y3_.2.1)=1
    ·rw[if_pos hy7] at h
     obtain rfl:=oI h
     exact runC2 hm (kW [2] [] 0 0) (k0 <|
      k5 <|
      k7 <|
      zz 25 (xeT hy7) <|
      ee) (by kernel_rfl)
    ·rw[if_neg hy7] at h
     obtain rfl:=oI h
     exact runC2 hm (kW [0,3] [] 0 0) (k0 <|
      k5 <|
      k7 <|
      zz 25 (xeF hy7) <|
      ee) (by kernel_rfl)
   ·rw[if_neg hy6] at h
    obtain rfl:=oI h
    exact runC2 hm (kW [0,3] [] 0 0) (k0 <|
     k5 <|
     zz 18 (xdF hy6) <|
     ee) (by kernel_rfl)
  ·rw[if_neg hy5] at h
   obtain rfl:=oI h
   exact runC2 hm (kW [2] [] 0 0) (k0 <|
    yy 15 (vt) <|
    ww (p:=(Value.bool (!y4_))=(Value.bool true)) (vBn (Bool.eq_false_iff.2 hy5)) <|
    ee) (by kernel_rfl)
 ·rw[if_neg hy1] at h
  obtain rfl:=oI h
  exact runC2 hm (kW [0] [] 0 0) (zz 5 (xdF hy1) <|
   ee) (by kernel_rfl)
theorem qhv_ (n:Nat){rnd:Option Nat}(x0:W8)(st:Int)(r:(Unit) ⊕ (Unit))(h:qdb_ n x0 st=some r):qpm_ rnd x0 st r:=
 CG.iter (b:=qp_ P 33 [false,false,true,false,true,true]) (by kernel_rfl) (body:=qq_ n x0) (S:=qei_ x0) (X:=qbq_ x0)
  (fun s s' h=>qjc_ n x0 s (.inl s') h)
  (fun s r h=>qjc_ n x0 s (.inr r) h)
  (fun r=>by intro hx; rcases r with _ | _<;>cases hx) h
def qe_ (n:Nat)(a0:W8):Option (Int):=
 if (((a0).l.length:Nat):Int) > 524288 then
  some 3
 else
  match qdb_ n a0 0 with
  | none=>none
  | some (.inl _)=>
   some 2
  | some (.inr _)=>
   if (((a0).l.length:Nat):Int)=0 then
    some 2
   else
    (qd_ n a0 0).bind fun c4_=>
    if c4_=(((a0).l.length:Nat):Int) then
     some 0
    else
     some 2
theorem qw_ (n:Nat)(a0:W8)(r:Int)(h:qe_ n a0=some r):qrp_ a0 r:=by
 unfold qe_ at h
 by_cases hc1:(((a0).l.length:Nat):Int) > 524288
 ·rw[if_pos hc1] at h
  obtain rfl:=oI h
  exact runF2 hm (kW [2] [] 0 0) (zz 6 (xdT hc1) <|
   ee) (by kernel_rfl)
 ·rw[if_neg hc1] at h
  have k0:=fun {A L l} (k:PL A L l)=>zz 6 (xdF hc1) <|
   k
  rcases hc2:qdb_ n a0 0 with _ | (⟨⟩ | ⟨⟩)
  ·rw[hc2] at h; cases h
  ·rw[hc2] at h
   dsimp only at h
   obtain rfl:=oI h
   exact runF2 hm (kW [2] [] 0 0) (k0 <|
    ww (qhv_ n (rnd:=none) a0 0 (.inl ()) hc2) <|
    ll 12 ⟨(kW [0,3] [] 0 0),(qbq_ a0 (.inl ())).1,(qbq_ a0 (.inl ())).2⟩ <|
    ee) (by kernel_rfl)
  ·rw[hc2] at h
   dsimp only at h
   have k1:=fun {A L l} (k:PL A L l)=>ww (qhv_ n (rnd:=none) a0 0 (.inr ()) hc2) <|
    ll 12 ⟨(kW [0,3] [] 0 0),(qbq_ a0 (.inr ())).1,(qbq_ a0 (.inr ())).2⟩ <|
    k
   by_cases hc3:(((a0).l.length:Nat):Int)=0
   ·rw[if_pos hc3] at h
    obtain rfl:=oI h
    exact runF2 hm (kW [2] [] 0 0) (k0 <|
     k1 <|
     zz 17 (xeT hc3) <|
     ee) (by kernel_rfl)
   ·rw[if_neg hc3] at h
    obtain⟨c4_,hc4,h⟩:=oB h
    have k3:=fun {A L l} (k:PL A L l)=>zz 17 (xeF hc3) <|
     yy 20 (.call (qe2_ a0 0 c4_ [] [])) <|
     ww (qdr_ n a0 0 c4_ hc4) <|
     k
    by_cases hc5:c4_=(((a0).l.length:Nat):Int)
    ·rw[if_pos hc5] at h
     obtain rfl:=oI h
     exact runF2 hm (kW [2] [] 0 0) (k0 <|
      k1 <|
      k3 <|
      zz 23 (xnF hc5) <|
      ee) (by kernel_rfl)
    ·rw[if_neg hc5] at h
     obtain rfl:=oI h
     exact runF2 hm (kW [2] [] 0 0) (k0 <|
      k1 <|
      k3 <|
      zz 23 (xnT hc5) <|
      ee) (by kernel_rfl)

def qlh_ (a0:W8)(a1:Int)(a2:W8)(r:Bool):Value:=match r with
 | o0=>(bO o0)
def qli_ (a0:W8)(a1:Int)(a2:W8)(r:Bool):AH:=match r with
 | o0=>⟨sB [],0,0⟩
abbrev qse_ (a0:W8)(a1:Int)(a2:W8)(r:Bool):Prop:=Gv P (.func 14) [(wlV a0),(i6 a1),(wlV a2)] ⟨sB [],0,0⟩ (qlh_ a0 a1 a2 r) (qli_ a0 a1 a2 r)
abbrev qlj_ (a0:W8)(a1:Int)(a2:W8)(r:Bool)(ins outs:BL):CallA:=⟨0,ins,qlh_ a0 a1 a2 r,qli_ a0 a1 a2 r,outs⟩
def qdh_ (n:Nat)(a0:W8)(a1:Int)(a2:W8):Option (Bool):=
 (qe_ n a0).bind fun c1_=>
 if c1_=0 then
  (qe_ n a2).bind fun c3_=>
  if c3_=0 then
   if a1 ≥ 0 then
    if a1<(((a0).l.length:Nat):Int) then
     if 0≤a1∧a1<(((a0).l.length:Nat):Int) then
      ((some (((a0).l).getD (a1).toNat (0,0,0,0,0,0,nl0,0)))).bind fun c8_=>
      if 0≤(0:Int)∧(0:Int)<(((a2).l.length:Nat):Int) then
       ((some (((a2).l).getD ((0:Int)).toNat (0,0,0,0,0,0,nl0,0)))).bind fun c10_=>
       if (c8_.1)=(c10_.1) then
        if (c8_.2.1)=(c10_.2.1) then
         if (c8_.2.2.1)=(c10_.2.2.1) then
          if (c8_.2.2.2.2.1)=(c10_.2.2.2.2.1) then
           some true
          else
           some false
         else
          some false
        else
         some false
       else
        some false
      else none
     else none
    else
     some false
   else
    some false
  else
   some false
 else
  some false
theorem qjd_ (n:Nat)(a0:W8)(a1:Int)(a2:W8)(r:Bool)(h:qdh_ n a0 a1 a2=some r):qse_ a0 a1 a2 r:=by
 unfold qdh_ at h
 obtain⟨c1_,hc1,h⟩:=oB h
 have k0:=fun {A L l} (k:PL A L l)=>yy 4 (.call (q1_ a0 c1_ [] [])) <|
  ww (qw_ n a0 c1_ hc1) <|
  k
 by_cases hc2:c1_=0
 ·rw[if_pos hc2] at h
  obtain⟨c3_,hc3,h⟩:=oB h
  have k2:=fun {A L l} (k:PL A L l)=>zz 5 (xeT hc2) <|
   yy 8 (.call (q1_ a2 c3_ [] [])) <|
   ww (qw_ n a2 c3_ hc3) <|
   k
  by_cases hc4:c3_=0
  ·rw[if_pos hc4] at h
   have k5:=fun {A L l} (k:PL A L l)=>zz 9 (xeT hc4) <|
    k
   by_cases hc5:a1 ≥ 0
   ·rw[if_pos hc5] at h
    have k6:=fun {A L l} (k:PL A L l)=>zz 13 (xdT hc5) <|
     k
    by_cases hc6:a1<(((a0).l.length:Nat):Int)
    ·rw[if_pos hc6] at h
     obtain⟨hc7,h⟩:=gd h
     obtain⟨c8_,hc8,h⟩:=oB h
     obtain⟨hc9,h⟩:=gd h
     obtain⟨c10_,hc10,h⟩:=oB h
     have k7:=fun {A L l} (k:PL A L l)=>zz 19 (xdT hc6) <|
      zz 24 (xk1 (a0).num (a0).off (a0).cap hc7) <|
      zz 25 (fk23 (a0).num (Nat.add (a0).off ((a1).toNat*8))) <|
      zz 26 (lk24 hc8 (qj_ hc7)) <|
      zz 28 (xk1 (a2).num (a2).off (a2).cap hc9) <|
      zz 29 (fk23 (a2).num (Nat.add (a2).off (((0:Int)).toNat*8))) <|
      zz 30 (lk24 hc10 (qj_ hc9)) <|
      k
     by_cases hc11:(c8_.1)=(c10_.1)
     ·rw[if_pos hc11] at h
      have k14:=fun {A L l} (k:PL A L l)=>zz 31 (xeT hc11) <|
       zz 36 (xk1 (a0).num (a0).off (a0).cap hc7) <|
       zz 37 (fk21 (a0).num (Nat.add (a0).off ((a1).toNat*8))) <|
       zz 38 (lk22 hc8 (qj_ hc7)) <|
       zz 40 (xk1 (a2).num (a2).off (a2).cap hc9) <|
       zz 41 (fk21 (a2).num (Nat.add (a2).off (((0:Int)).toNat*8))) <|
       zz 42 (lk22 hc10 (qj_ hc9)) <|
       k
      by_cases hc12:(c8_.2.1)=(c10_.2.1)
      ·rw[if_pos hc12] at h
       have k21:=fun {A L l} (k:PL A L l)=>zz 43 (xeT hc12) <|
        zz 48 (xk1 (a0).num (a0).off (a0).cap hc7) <|
        zz 49 (fk16 (a0).num (Nat.add (a0).off ((a1).toNat*8))) <|
        zz 50 (lk17 hc8 (qj_ hc7)) <|
        zz 52 (xk1 (a2).num (a2).off (a2).cap hc9) <|
        zz 53 (fk16 (a2).num (Nat.add (a2).off (((0:Int)).toNat*8))) <|
        zz 54 (lk17 hc10 (qj_ hc9)) <|
        k
       by_cases hc13:(c8_.2.2.1)=(c10_.2.2.1)
       ·rw[if_pos hc13] at h
        have k28:=fun {A L l} (k:PL A L l)=>zz 55 (xeT hc13) <|
         zz 60 (xk1 (a0).num (a0).off (a0).cap hc7) <|
         zz 61 (fk18 (a0).num (Nat.add (a0).off ((a1).toNat*8))) <|
         zz 62 (lk19 hc8 (qj_ hc7)) <|
         zz 64 (xk1 (a2).num (a2).off (a2).cap hc9) <|
         zz 65 (fk18 (a2).num (Nat.add (a2).off (((0:Int)).toNat*8))) <|
         zz 66 (lk19 hc10 (qj_ hc9)) <|
         k
        by_cases hc14:(c8_.2.2.2.2.1)=(c10_.2.2.2.2.1)
        ·rw[if_pos hc14] at h
         obtain rfl:=oI h
         exact runF2 hm (kW [6] [] 0 0) (k0 <|
          k2 <|
          k5 <|
          k6 <|
          k7 <|
          k14 <|
          k21 <|
          k28 <|
          zz 67 (xeT hc14) <|
          ee) (by kernel_rfl)
        ·rw[if_neg hc14] at h
         obtain rfl:=oI h
         exact runF2 hm (kW [6] [] 0 0) (k0 <|
          k2 <|
          k5 <|
          k6 <|
          k7 <|
          k14 <|
          k21 <|
          k28 <|
          zz 67 (xeF hc14) <|
          ee) (by kernel_rfl)
       ·rw[if_neg hc13] at h
        obtain rfl:=oI h
        exact runF2 hm (kW [6] [] 0 0) (k0 <|
         k2 <|
         k5 <|
         k6 <|
         k7 <|
         k14 <|
         k21 <|
         zz 55 (xeF hc13) <|
         ee) (by kernel_rfl)
      ·rw[if_neg hc12] at h
       obtain rfl:=oI h
       exact runF2 hm (kW [6] [] 0 0) (k0 <|
        k2 <|
        k5 <|
        k6 <|
        k7 <|
        k14 <|
        zz 43 (xeF hc12) <|
        ee) (by kernel_rfl)
     ·rw[if_neg hc11] at h
      obtain rfl:=oI h
      exact runF2 hm (kW [6] [] 0 0) (k0 <|
       k2 <|
       k5 <|
       k6 <|
       k7 <|
       zz 31 (xeF hc11) <|
       ee) (by kernel_rfl)
    ·rw[if_neg hc6] at h
     obtain rfl:=oI h
     exact runF2 hm (kW [6] [] 0 0) (k0 <|
      k2 <|
      k5 <|
      k6 <|
      zz 19 (xdF hc6) <|
      ee) (by kernel_rfl)
   ·rw[if_neg hc5] at h
    obtain rfl:=oI h
    exact runF2 hm (kW [6] [] 0 0) (k0 <|
     k2 <|
     k5 <|
     zz 13 (xdF hc5) <|
     ee) (by kernel_rfl)
  ·rw[if_neg hc4] at h
   obtain rfl:=oI h
   exact runF2 hm (kW [6] [] 0 0) (k0 <|
    k2 <|
    zz 9 (xeF hc4) <|
    ee) (by kernel_rfl)
 ·rw[if_neg hc2] at h
  obtain rfl:=oI h
  exact runF2 hm (kW [6] [] 0 0) (k0 <|
   zz 5 (xeF hc2) <|
   ee) (by kernel_rfl)

def qnu_ (a0:W8)(a1:Int)(r:Bool):Value:=match r with
 | o0=>(bO o0)
def qnv_ (a0:W8)(a1:Int)(r:Bool):AH:=match r with
 | o0=>⟨sB [],0,0⟩
abbrev qur_ (a0:W8)(a1:Int)(r:Bool):Prop:=Gv P (.func 56) [(wlV a0),(i6 a1)] ⟨sB [],0,0⟩ (qnu_ a0 a1 r) (qnv_ a0 a1 r)
abbrev qnw_ (a0:W8)(a1:Int)(r:Bool)(ins outs:BL):CallA:=⟨0,ins,qnu_ a0 a1 r,qnv_ a0 a1 r,outs⟩
def qd9_ (n:Nat)(a0:W8)(a1:Int):Option (Bool):=
 (qe_ n a0).bind fun c1_=>
 if c1_=0 then
  if a1 ≥ 0 then
   if a1<(((a0).l.length:Nat):Int) then
    some true
   else
    some false
  else
   some false
 else
  some false
theorem qkt_ (n:Nat)(a0:W8)(a1:Int)(r:Bool)(h:qd9_ n a0 a1=some r):qur_ a0 a1 r:=by
 unfold qd9_ at h
 obtain⟨c1_,hc1,h⟩:=oB h
 have k0:=fun {A L l} (k:PL A L l)=>yy 4 (.call (q1_ a0 c1_ [] [])) <|
  ww (qw_ n a0 c1_ hc1) <|
  k
 by_cases hc2:c1_=0
 ·rw[if_pos hc2] at h
  have k2:=fun {A L l} (k:PL A L l)=>zz 5 (xeT hc2) <|
   k
  by_cases hc3:a1 ≥ 0
  ·rw[if_pos hc3] at h
   have k3:=fun {A L l} (k:PL A L l)=>zz 8 (xdT hc3) <|
    k
   by_cases hc4:a1<(((a0).l.length:Nat):Int)
   ·rw[if_pos hc4] at h
    obtain rfl:=oI h
    exact runF2 hm (kW [4] [] 0 0) (k0 <|
     k2 <|
     k3 <|
     zz 14 (xdT hc4) <|
     ee) (by kernel_rfl)
   ·rw[if_neg hc4] at h
    obtain rfl:=oI h
    exact runF2 hm (kW [4] [] 0 0) (k0 <|
     k2 <|
     k3 <|
     zz 14 (xdF hc4) <|
     ee) (by kernel_rfl)
  ·rw[if_neg hc3] at h
   obtain rfl:=oI h
   exact runF2 hm (kW [4] [] 0 0) (k0 <|
    k2 <|
    zz 8 (xdF hc3) <|
    ee) (by kernel_rfl)
 ·rw[if_neg hc2] at h
  obtain rfl:=oI h
  exact runF2 hm (kW [4] [] 0 0) (k0 <|
   zz 5 (xeF hc2) <|
   ee) (by kernel_rfl)

def qku_ (a0:W8)(a1:Int)(r:(Unit) ⊕ (List R8)):Value:=match r with
 | .inl _=>(Value.slice none 0 0)
 | .inr o0=>(sN 0 0 (o0).length (Nat.add big 8))
def qkv_ (a0:W8)(a1:Int)(r:(Unit) ⊕ (List R8)):AH:=match r with
 | .inl _=>⟨sB [],0,0⟩
 | .inr o0=>⟨sB [(0,(cB (rows rw_iiiiiiLu o0) 46))],1,0⟩
abbrev qrq_ (a0:W8)(a1:Int)(r:(Unit) ⊕ (List R8)):Prop:=Gv P (.func 57) [(wlV a0),(i6 a1)] ⟨sB [],0,0⟩ (qku_ a0 a1 r) (qkv_ a0 a1 r)
abbrev qi_ (a0:W8)(a1:Int)(r:(Unit) ⊕ (List R8))(ins outs:BL):CallA:=⟨0,ins,qku_ a0 a1 r,qkv_ a0 a1 r,outs⟩
def qej_ (x0:W8)(x1 x3 x4 x5 x6 x7 x8 x9 x11:Int)(st:List R8×List Int×Int):XSt:=match st with
 | (x2,x10,x12)=>(sT 50 [(0,(wlV x0)),(1,(i6 x1)),(5,(slR x2 0 8)),(6,(i6 x3)),(7,(pN 1 0)),(8,(i6 x12))],[],⟨sB [(0,(nblkR rw_iiiiiiLu x2 46)),(1,(cB [(i6 x4),(i6 x5),(i6 x6),(i6 x7),(i6 x8),(i6 x9),(slN x10 2),(Value.int .u64 x11)] 46)),(2,(nblk x10 3))],3,0⟩)
def qr_ (x0:W8)(x1 x3 x4 x5 x6 x7 x8 x9 x11:Int)(r:List R8×NL):Ex×XSt:=match r with
 | (z0,z1)=>(.exit 2,(sT 50 [(0,(wlV x0)),(1,(i6 x1)),(5,(slR z0 0 8)),(6,(i6 x3)),(7,(pN 1 0))],[],⟨sB [(0,(nblkR rw_iiiiiiLu z0 46)),(1,(cB [(i6 x4),(i6 x5),(i6 x6),(i6 x7),(i6 x8),(i6 x9),(nlV z1),(Value.int .u64 x11)] 46))],2,0⟩))
abbrev qpn_ (rnd:Option Nat)(x0:W8)(x1 x3 x4 x5 x6 x7 x8 x9 x11:Int)(st:List R8×List Int×Int)(c:Ex×XSt):Prop:=CG P rnd (fnN P 57) 0 (qp_ P 57 [false,false,true,false,true,true,false,false,true,false,false,true,false,true,true]) (qej_ x0 x1 x3 x4 x5 x6 x7 x8 x9 x11 st) c
abbrev qpo_ (rd:Option Nat)(x0:W8)(x1 x3 x4 x5 x6 x7 x8 x9 x11:Int)(st:List R8×List Int×Int)(r:List R8×NL):Prop:=CG P rd (fnN P 57) 0 (qp_ P 57 [false,true,false,true,true,false,false,true,false,false,true,false,true,true]) (qej_ x0 x1 x3 x4 x5 x6 x7 x8 x9 x11 st) (qr_ x0 x1 x3 x4 x5 x6 x7 x8 x9 x11 r)
def qbr_ (n:Nat)(x0:W8)(x1 x3 x4 x5 x6 x7 x8 x9 x11:Int)(st:List R8×List Int×Int):Option ((List R8×List Int×Int) ⊕ (List R8×NL)):=match st with
 | (x2,x10,x12)=>
  match x2 with
  | []=>
   match x10 with
   | []=>
    if 0≤x3∧x3<(((x0).l.length:Nat):Int) then
     ((some (((x0).l).getD (x3).toNat (0,0,0,0,0,0,nl0,0)))).bind fun y2_=>
     if x12<((((y2_.2.2.2.2.2.2.1)).l.length:Nat):Int) then
      if 0≤x12∧x12<((((y2_.2.2.2.2.2.2.1)).l.length:Nat):Int) then
       if (x12).toNat<(((y2_.2.2.2.2.2.2.1)).l).length then
        ((some ((((y2_.2.2.2.2.2.2.1)).l).getD (x12).toNat 0))).bind fun y6_=>
        some (.inl (([]:List R8),[(w64 (y6_+x1))],(w64 (x12+1))))
       else none
      else none
     else
      some (.inr (([]:List R8),nl0))
    else none
   | x10a::x10t=>
    if 0≤x3∧x3<(((x0).l.length:Nat):Int) then
     ((some (((x0).l).getD (x3).toNat (0,0,0,0,0,0,nl0,0)))).bind fun y2_=>
     if x12<((((y2_.2.2.2.2.2.2.1)).l.length:Nat):Int) then
      if 0≤x12∧x12<((((y2_.2.2.2.2.2.2.1)).l.length:Nat):Int) then
       if (x12).toNat<(((y2_.2.2.2.2.2.2.1)).l).length then
        ((some ((((y2_.2.2.2.2.2.2.1)).l).getD (x12).toNat 0))).bind fun y6_=>
        if (((x10a::x10t)).length+1)*8≤140737488355328 then
         some (.inl (([]:List R8),((x10a::x10t) ++ [(w64 (y6_+x1))]),(w64 (x12+1))))
        else none
       else none
      else none
     else
      if hy4:(x10a::x10t).length≤140737488355328 then
       some (.inr (([]:List R8),(frzL (x10a::x10t) hy4)))
      else none
    else none
  | x2a::x2t=>
   match x10 with
   | []=>
    if 0≤x3∧x3<(((x0).l.length:Nat):Int) then
     ((some (((x0).l).getD (x3).toNat (0,0,0,0,0,0,nl0,0)))).bind fun y2_=>
     if x12<((((y2_.2.2.2.2.2.2.1)).l.length:Nat):Int) then
      if 0≤x12∧x12<((((y2_.2.2.2.2.2.2.1)).l.length:Nat):Int) then
       if (x12).toNat<(((y2_.2.2.2.2.2.2.1)).l).length then
        ((some ((((y2_.2.2.2.2.2.2.1)).l).getD (x12).toNat 0))).bind fun y6_=>
        some (.inl ((x2a::x2t),[(w64 (y6_+x1))],(w64 (x12+1))))
       else none
      else none
     else
      some (.inr ((x2a::x2t),nl0))
    else none
   | x10a::x10t=>
    if 0≤x3∧x3<(((x0).l.length:Nat):Int) then
     ((some (((x0).l).getD (x3).toNat (0,0,0,0,0,0,nl0,0)))).bind fun y2_=>
     if x12<((((y2_.2.2.2.2.2.2.1)).l.length:Nat):Int) then
      if 0≤x12∧x12<((((y2_.2.2.2.2.2.2.1)).l.length:Nat):Int) then
       if (x12).toNat<(((y2_.2.2.2.2.2.2.1)).l).length then
        ((some ((((y2_.2.2.2.2.2.2.1)).l).getD (x12).toNat 0))).bind fun y6_=>
        if (((x10a::x10t)).length+1)*8≤140737488355328 then
         some (.inl ((x2a::x2t),((x10a::x10t) ++ [(w64 (y6_+x1))]),(w64 (x12+1))))
        else none
       else none
      else none
     else
      if hy4:(x10a::x10t).length≤140737488355328 then
       some (.inr ((x2a::x2t),(frzL (x10a::x10t) hy4)))
      else none
    else none
def qek_ (n:Nat)(x0:W8)(x1 x3 x4 x5 x6 x7 x8 x9 x11:Int)(st:List R8×List Int×Int):Option (List R8×NL):=iterM (qbr_ n x0 x1 x3 x4 x5 x6 x7 x8 x9 x11) n st
theorem qje_ (n:Nat){rnd:Option Nat}(x0:W8)(x1 x3 x4 x5 x6 x7 x8 x9 x11:Int)(st:List R8×List Int×Int)(o:(List R8×List Int×Int) ⊕ (List R8×NL))(h:qbr_ n x0 x1 x3 x4 x5 x6 x7 x8 x9 x11 st=some o):qpn_ rnd x0 x1 x3 x4 x5 x6 x7 x8 x9 x11 st (Sum.elim (fun s=>(.normal,qej_ x0 x1 x3 x4 x5 x6 x7 x8 x9 x11 s)) (fun r=>qr_ x0 x1 x3 x4 x5 x6 x7 x8 x9 x11 r) o):=by
 obtain⟨x2,x10,x12⟩:=st
 unfold qbr_ at h
 dsimp only at h
 cases x2 with
 | nil=>
  dsimp only at h
  cases x10 with
  | nil=>
   dsimp only at h
   obtain⟨hy1,h⟩:=gd h
   obtain⟨y2_,hy2,h⟩:=oB h
   have k0:=fun {A L l} (k:PL A L l)=>zz 5 (xk1 (x0).num (x0).off (x0).cap hy1) <|
    zz 6 (fk11 (x0).num (Nat.add (x0).off ((x3).toNat*8))) <|
    zz 7 (lk12 hy2 (qj_ hy1)) <|
    k
   by_cases hy3:x12<((((y2_.2.2.2.2.2.2.1)).l.length:Nat):Int)
   ·rw[if_pos hy3] at h
    obtain⟨hy4,h⟩:=gd h
    obtain⟨hy5,h⟩:=gd h
    obtain⟨y6_,hy6,h⟩:=oB h
    obtain rfl:=oI h
    exact runC2 hm (kW [0,1,5,6,7,8] [(1,1,false),(2,16,false)] 3 0) (k0 <|
     zz 9 (xdT hy3) <|
     zz 17 (xk1 (x0).num (x0).off (x0).cap hy1) <|
     zz 18 (fk11 (x0).num (Nat.add (x0).off ((x3).toNat*8))) <|
     zz 19 (lk12 hy2 (qj_ hy1)) <|
     zz 21 (xk8 (Nat.add ((y2_.2.2.2.2.2.2.1)).num 64) ((y2_.2.2.2.2.2.2.1)).off ((y2_.2.2.2.2.2.2.1)).cap hy4) <|
     zz 22 (nk9 hy6 hy5) <|
     ee) (by kernel_rfl)
   ·rw[if_neg hy3] at h
    obtain rfl:=oI h
    exact runC2 hm ⟨[0,1,5,6,7],[(1,1,false)],2,0,[],true,[46],[],[]⟩ (k0 <|
     zz 9 (xdF hy3) <|
     ee) (by kernel_rfl)
  | cons x10a x10t=>
   dsimp only at h
   obtain⟨hy1,h⟩:=gd h
   obtain⟨y2_,hy2,h⟩:=oB h
   have k0:=fun {A L l} (k:PL A L l)=>zz 5 (xk1 (x0).num (x0).off (x0).cap hy1) <|
    zz 6 (fk11 (x0).num (Nat.add (x0).off ((x3).toNat*8))) <|
    zz 7 (lk12 hy2 (qj_ hy1)) <|
    k
   by_cases hy3:x12<((((y2_.2.2.2.2.2.2.1)).l.length:Nat):Int)
   ·rw[if_pos hy3] at h
    obtain⟨hy4,h⟩:=gd h
    obtain⟨hy5,h⟩:=gd h
    obtain⟨y6_,hy6,h⟩:=oB h
    obtain⟨hy7,h⟩:=gd h
    obtain rfl:=oI h
    exact runC2 hm (kW [0,1,5,6,7,8] [(1,1,false),(2,16,true)] 3 0) (k0 <|
     zz 9 (xdT hy3) <|
     zz 17 (xk1 (x0).num (x0).off (x0).cap hy1) <|
     zz 18 (fk11 (x0).num (Nat.add (x0).off ((x3).toNat*8))) <|
     zz 19 (lk12 hy2 (qj_ hy1)) <|
     zz 21 (xk8 (Nat.add ((y2_.2.2.2.2.2.2.1)).num 64) ((y2_.2.2.2.2.2.2.1)).off ((y2_.2.2.2.2.2.2.1)).cap hy4) <|
     zz 22 (nk9 hy6 hy5) <|
     yy 26 (.app ⟨none,iv (x10a::x10t),(iv ((x10a::x10t) ++ [(w64 (y6_+x1))])),(((x10a::x10t) ++ [(w64 (y6_+x1))])).length,false⟩) <|
     ww (p:=0<1) ((by decide)) <|
     ww (p:=rdT (layT (iv (x10a::x10t))) (Nat.mul ((x10a::x10t)).length 1) 0=some (iv (x10a::x10t))) (iv_rd _) <|
     ww (p:=fits (Nat.add ((x10a::x10t)).length 1) 8=true) (fits_ok hy7 (by have:=hy7; show (_:Nat)+_≤_; omega)) <|
     ww (p:=qm_ [(i6 (w64 (y6_+x1)))]=true) (rfl) <|
     ww (p:=qm_ (iv (x10a::x10t))=true) (qpf_ _) <|
     ww (p:=iv (x10a::x10t) ++ [(i6 (w64 (y6_+x1)))]=(iv ((x10a::x10t) ++ [(w64 (y6_+x1))]))) (by simp[iv]) <|
     ww (p:=Nat.add ((x10a::x10t)).length 1=(((x10a::x10t) ++ [(w64 (y6_+x1))])).length) (by simp) <|
     ww (qco_ ((x10a::x10t) ++ [(w64 (y6_+x1))]) 3) <|
     ee) (by kernel_rfl)
   ·rw[if_neg hy3] at h
    obtain⟨hy4,h⟩:=gdD h
    obtain rfl:=oI h
    exact runC2 hm ⟨[0,1,5,6,7],[(1,1,false)],2,0,[(2,Nat.add (2*cod (x10a::x10t)+1) 64)],true,[],[],[]⟩ (k0 <|
     zz 9 (xdF hy3) <|
     ww (qon_ ql_ q2_ (x10a::x10t)) <|
     ee) (by kernel_rfl)
 | cons x2a x2t=>
  dsimp only at h
  cases x10 with
  | nil=>
   dsimp only at h
   obtain⟨hy1,h⟩:=gd h
   obtain⟨y2_,hy2,h⟩:=oB h
   have k0:=fun {A L l} (k:PL A L l)=>zz 5 (xk1 (x0).num (x0).off (x0).cap hy1) <|
    zz 6 (fk11 (x0).num (Nat.add (x0).off ((x3).toNat*8))) <|
    zz 7 (lk12 hy2 (qj_ hy1)) <|
    k
   by_cases hy3:x12<((((y2_.2.2.2.2.2.2.1)).l.length:Nat):Int)
   ·rw[if_pos hy3] at h
    obtain⟨hy4,h⟩:=gd h
    obtain⟨hy5,h⟩:=gd h
    obtain⟨y6_,hy6,h⟩:=oB h
    obtain rfl:=oI h
    exact runC2 hm (kW [0,1,5,6,7,8] [(0,0,true),(1,1,false),(2,16,false)] 3 0) (k0 <|
     zz 9 (xdT hy3) <|
     zz 17 (xk1 (x0).num (x0).off (x0).cap hy1) <|
     zz 18 (fk11 (x0).num (Nat.add (x0).off ((x3).toNat*8))) <|
     zz 19 (lk12 hy2 (qj_ hy1)) <|
     zz 21 (xk8 (Nat.add ((y2_.2.2.2.2.2.2.1)).num 64) ((y2_.2.2.2.2.2.2.1)).off ((y2_.2.2.2.2.2.2.1)).cap hy4) <|
     zz 22 (nk9 hy6 hy5) <|
     ww (qb_ rwf_iiiiiiLu (x2a::x2t) 46) <|
     ee) (by kernel_rfl)
   ·rw[if_neg hy3] at h
    obtain rfl:=oI h
    exact runC2 hm ⟨[0,1,5,6,7],[(0,0,true),(1,1,false)],2,0,[],true,[46],[],[]⟩ (k0 <|
     zz 9 (xdF hy3) <|
     ww (qb_ rwf_iiiiiiLu (x2a::x2t) 46) <|
     ww (qb_ rwf_iiiiiiLu (x2a::x2t) 46) <|
     ee) (by kernel_rfl)
  | cons x10a x10t=>
   dsimp only at h
   obtain⟨hy1,h⟩:=gd h
   obtain⟨y2_,hy2,h⟩:=oB h
   have k0:=fun {A L l} (k:PL A L l)=>zz 5 (xk1 (x0).num (x0).off (x0).cap hy1) <|
    zz 6 (fk11 (x0).num (Nat.add (x0).off ((x3).toNat*8))) <|
    zz 7 (lk12 hy2 (qj_ hy1)) <|
    k
   by_cases hy3:x12<((((y2_.2.2.2.2.2.2.1)).l.length:Nat):Int)
   ·rw[if_pos hy3] at h
    obtain⟨hy4,h⟩:=gd h
    obtain⟨hy5,h⟩:=gd h
    obtain⟨y6_,hy6,h⟩:=oB h
    obtain⟨hy7,h⟩:=gd h
    obtain rfl:=oI h
    exact runC2 hm (kW [0,1,5,6,7,8] [(0,0,true),(1,1,false),(2,16,true)] 3 0) (k0 <|
     zz 9 (xdT hy3) <|
     zz 17 (xk1 (x0).num (x0).off (x0).cap hy1) <|
     zz 18 (fk11 (x0).num (Nat.add (x0).off ((x3).toNat*8))) <|
     zz 19 (lk12 hy2 (qj_ hy1)) <|
     zz 21 (xk8 (Nat.add ((y2_.2.2.2.2.2.2.1)).num 64) ((y2_.2.2.2.2.2.2.1)).off ((y2_.2.2.2.2.2.2.1)).cap hy4) <|
     zz 22 (nk9 hy6 hy5) <|
     yy 26 (.app ⟨none,iv (x10a::x10t),(iv ((x10a::x10t) ++ [(w64 (y6_+x1))])),(((x10a::x10t) ++ [(w64 (y6_+x1))])).length,false⟩) <|
     ww (p:=0<1) ((by decide)) <|
     ww (p:=rdT (layT (iv (x10a::x10t))) (Nat.mul ((x10a::x10t)).length 1) 0=some (iv (x10a::x10t))) (iv_rd _) <|
     ww (p:=fits (Nat.add ((x10a::x10t)).length 1) 8=true) (fits_ok hy7 (by have:=hy7; show (_:Nat)+_≤_; omega)) <|
     ww (p:=qm_ [(i6 (w64 (y6_+x1)))]=true) (rfl) <|
     ww (p:=qm_ (iv (x10a::x10t))=true) (qpf_ _) <|
     ww (p:=iv (x10a::x10t) ++ [(i6 (w64 (y6_+x1)))]=(iv ((x10a::x10t) ++ [(w64 (y6_+x1))]))) (by simp[iv]) <|
     ww (p:=Nat.add ((x10a::x10t)).length 1=(((x10a::x10t) ++ [(w64 (y6_+x1))])).length) (by simp) <|
     ww (qb_ rwf_iiiiiiLu (x2a::x2t) 46) <|
     ww (qco_ ((x10a::x10t) ++ [(w64 (y6_+x1))]) 3) <|
     ee) (by kernel_rfl)
   ·rw[if_neg hy3] at h
    obtain⟨hy4,h⟩:=gdD h
    obtain rfl:=oI h
    exact runC2 hm ⟨[0,1,5,6,7],[(0,0,true),(1,1,false)],2,0,[(2,Nat.add (2*cod (x10a::x10t)+1) 64)],true,[],[],[]⟩ (k0 <|
     zz 9 (xdF hy3) <|
     ww (qb_ rwf_iiiiiiLu (x2a::x2t) 46) <|
     ww (qon_ ql_ q2_ (x10a::x10t)) <|
     ww (qb_ rwf_iiiiiiLu (x2a::x2t) 46) <|
     ee) (by kernel_rfl)
theorem qdp_ (n:Nat){rnd:Option Nat}(x0:W8)(x1 x3 x4 x5 x6 x7 x8 x9 x11:Int)(st:List R8×List Int×Int)(r:List R8×NL)(h:qek_ n x0 x1 x3 x4 x5 x6 x7 x8 x9 x11 st=some r):qpo_ rnd x0 x1 x3 x4 x5 x6 x7 x8 x9 x11 st r:=
 CG.iter (b:=qp_ P 57 [false,false,true,false,true,true,false,false,true,false,false,true,false,true,true]) (by kernel_rfl) (body:=qbr_ n x0 x1 x3 x4 x5 x6 x7 x8 x9 x11) (S:=qej_ x0 x1 x3 x4 x5 x6 x7 x8 x9 x11) (X:=qr_ x0 x1 x3 x4 x5 x6 x7 x8 x9 x11)
  (fun s s' h=>qje_ n x0 x1 x3 x4 x5 x6 x7 x8 x9 x11 s (.inl s') h)
  (fun s r h=>qje_ n x0 x1 x3 x4 x5 x6 x7 x8 x9 x11 s (.inr r) h)
  (fun r=>by intro hx; cases hx) h
def qel_ (x0:W8)(x1:Int)(st:List R8×Int):XSt:=match st with
 | (x2,x3)=>(sT 50 [(0,(wlV x0)),(1,(i6 x1)),(5,(slR x2 0 8)),(6,(i6 x3))],[],⟨sB [(0,(nblkR rw_iiiiiiLu x2 46))],1,0⟩)
def qbs_ (x0:W8)(x1:Int)(r:List R8):Ex×XSt:=match r with
 | z0=>(.exit 0,(sT 50 [(5,(slR z0 0 8))],[],⟨sB [(0,(nblkR rw_iiiiiiLu z0 46))],1,0⟩))
abbrev qpp_ (rnd:Option Nat)(x0:W8)(x1:Int)(st:List R8×Int)(c:Ex×XSt):Prop:=CG P rnd (fnN P 57) 0 (qp_ P 57 [false,false,true,false,true,true]) (qel_ x0 x1 st) c
abbrev qpq_ (rd:Option Nat)(x0:W8)(x1:Int)(st:List R8×Int)(r:List R8):Prop:=CG P rd (fnN P 57) 0 (qp_ P 57 [false,true,false,true,true]) (qel_ x0 x1 st) (qbs_ x0 x1 r)
def qz_ (n:Nat)(x0:W8)(x1:Int)(st:List R8×Int):Option ((List R8×Int) ⊕ (List R8)):=match st with
 | (x2,x3)=>
  match x2 with
  | []=>
   if x3<(((x0).l.length:Nat):Int) then
    if 0≤x3∧x3<(((x0).l.length:Nat):Int) then
     ((some (((x0).l).getD (x3).toNat (0,0,0,0,0,0,nl0,0)))).bind fun y3_=>
     (qek_ n x0 x1 x3 (y3_.1) (y3_.2.1) (y3_.2.2.1) (y3_.2.2.2.1) (y3_.2.2.2.2.1) (y3_.2.2.2.2.2.1) (y3_.2.2.2.2.2.2.2) (([]:List R8),([]:List Int),0)).bind fun t=>match t with
     | (y4_0,y4_1)=>
      match y4_0 with
      | []=>
       some (.inl ([((y3_.1),(y3_.2.1),(y3_.2.2.1),(y3_.2.2.2.1),(y3_.2.2.2.2.1),(y3_.2.2.2.2.2.1),y4_1,(y3_.2.2.2.2.2.2.2))],(w64 (x3+1))))
      | y4_0a::y4_0t=>
       if (((y4_0a::y4_0t)).length+1)*80≤140737488355328 then
        some (.inl (((y4_0a::y4_0t) ++ [((y3_.1),(y3_.2.1),(y3_.2.2.1),(y3_.2.2.2.1),(y3_.2.2.2.2.1),(y3_.2.2.2.2.2.1),y4_1,(y3_.2.2.2.2.2.2.2))]),(w64 (x3+1))))
       else none
    else none
   else
    some (.inr ([]:List R8))
  | x2a::x2t=>
   if x3<(((x0).l.length:Nat):Int) then
    if 0≤x3∧x3<(((x0).l.length:Nat):Int) then
     ((some (((x0).l).getD (x3).toNat (0,0,0,0,0,0,nl0,0)))).bind fun y3_=>
     (qek_ n x0 x1 x3 (y3_.1) (y3_.2.1) (y3_.2.2.1) (y3_.2.2.2.1) (y3_.2.2.2.2.1) (y3_.2.2.2.2.2.1) (y3_.2.2.2.2.2.2.2) ((x2a::x2t),([]:List Int),0)).bind fun t=>match t with
     | (y4_0,y4_1)=>
      match y4_0 with
      | []=>
       some (.inl ([((y3_.1),(y3_.2.1),(y3_.2.2.1),(y3_.2.2.2.1),(y3_.2.2.2.2.1),(y3_.2.2.2.2.2.1),y4_1,(y3_.2.2.2.2.2.2.2))],(w64 (x3+1))))
      | y4_0a::y4_0t=>
       if (((y4_0a::y4_0t)).length+1)*80≤140737488355328 then
        some (.inl (((y4_0a::y4_0t) ++ [((y3_.1),(y3_.2.1),(y3_.2.2.1),(y3_.2.2.2.1),(y3_.2.2.2.2.1),(y3_.2.2.2.2.2.1),y4_1,(y3_.2.2.2.2.2.2.2))]),(w64 (x3+1))))
       else none
    else none
   else
    some (.inr (x2a::x2t))
def qem_ (n:Nat)(x0:W8)(x1:Int)(st:List R8×Int):Option (List R8):=iterM (qz_ n x0 x1) n st
theorem qjf_ (n:Nat){rnd:Option Nat}(x0:W8)(x1:Int)(st:List R8×Int)(o:(List R8×Int) ⊕ (List R8))(h:qz_ n x0 x1 st=some o):qpp_ rnd x0 x1 st (Sum.elim (fun s=>(.normal,qel_ x0 x1 s)) (fun r=>qbs_ x0 x1 r) o):=by
 obtain⟨x2,x3⟩:=st
 unfold qz_ at h
 dsimp only at h
 cases x2 with
 | nil=>
  dsimp only at h
  by_cases hy1:x3<(((x0).l.length:Nat):Int)
  ·rw[if_pos hy1] at h
   obtain⟨hy2,h⟩:=gd h
   obtain⟨y3_,hy3,h⟩:=oB h
   obtain⟨⟨y4_0,y4_1⟩,hy4,h⟩:=oB h
   dsimp only at h
   have k0:=fun {A L l} (k:PL A L l)=>zz 5 (xdT hy1) <|
    zz 12 (xk1 (x0).num (x0).off (x0).cap hy2) <|
    zz 13 (lk2 hy3 (qj_ hy2)) <|
    k
   cases y4_0 with
   | nil=>
    dsimp only at h
    obtain rfl:=oI h
    exact runC2 hm (kW [0,1,5,6] [(0,3,false)] 1 0) (k0 <|
     ww (qdp_ n (rnd:=rnd) x0 x1 x3 (y3_.1) (y3_.2.1) (y3_.2.2.1) (y3_.2.2.2.1) (y3_.2.2.2.2.1) (y3_.2.2.2.2.2.1) (y3_.2.2.2.2.2.2.2) (([]:List R8),([]:List Int),0) (([]:List R8),y4_1) hy4) <|
     ll 23 ⟨(kW [0,1,5,6,7,8] [(1,1,false)] 3 0),(qr_ x0 x1 x3 (y3_.1) (y3_.2.1) (y3_.2.2.1) (y3_.2.2.2.1) (y3_.2.2.2.2.1) (y3_.2.2.2.2.2.1) (y3_.2.2.2.2.2.2.2) (([]:List R8),y4_1)).1,(qr_ x0 x1 x3 (y3_.1) (y3_.2.1) (y3_.2.2.1) (y3_.2.2.2.1) (y3_.2.2.2.2.1) (y3_.2.2.2.2.2.1) (y3_.2.2.2.2.2.2.2) (([]:List R8),y4_1)).2⟩ <|
     ee) (by kernel_rfl)
   | cons y4_0a y4_0t=>
    dsimp only at h
    obtain⟨hy5,h⟩:=gd h
    obtain rfl:=oI h
    exact runC2 hm (kW [0,1,5,6] [(0,3,true)] 1 0) (k0 <|
     ww (qdp_ n (rnd:=rnd) x0 x1 x3 (y3_.1) (y3_.2.1) (y3_.2.2.1) (y3_.2.2.2.1) (y3_.2.2.2.2.1) (y3_.2.2.2.2.2.1) (y3_.2.2.2.2.2.2.2) (([]:List R8),([]:List Int),0) ((y4_0a::y4_0t),y4_1) hy4) <|
     ll 23 ⟨(kW [0,1,5,6,7,8] [(1,1,false)] 3 0),(qr_ x0 x1 x3 (y3_.1) (y3_.2.1) (y3_.2.2.1) (y3_.2.2.2.1) (y3_.2.2.2.2.1) (y3_.2.2.2.2.2.1) (y3_.2.2.2.2.2.2.2) ((y4_0a::y4_0t),y4_1)).1,(qr_ x0 x1 x3 (y3_.1) (y3_.2.1) (y3_.2.2.1) (y3_.2.2.2.1) (y3_.2.2.2.2.1) (y3_.2.2.2.2.2.1) (y3_.2.2.2.2.2.2.2) ((y4_0a::y4_0t),y4_1)).2⟩ <|
     yy 27 (.app ⟨none,rows rw_iiiiiiLu (y4_0a::y4_0t),(rows rw_iiiiiiLu ((y4_0a::y4_0t) ++ [((y3_.1),(y3_.2.1),(y3_.2.2.1),(y3_.2.2.2.1),(y3_.2.2.2.2.1),(y3_.2.2.2.2.2.1),y4_1,(y3_.2.2.2.2.2.2.2))])),(((y4_0a::y4_0t) ++ [((y3_.1),(y3_.2.1),(y3_.2.2.1),(y3_.2.2.2.1),(y3_.2.2.2.2.1),(y3_.2.2.2.2.2.1),y4_1,(y3_.2.2.2.2.2.2.2))])).length,false⟩) <|
     ww (p:=0<1) ((by decide)) <|
     ww (p:=rdT (layT (rows rw_iiiiiiLu (y4_0a::y4_0t))) (Nat.mul ((y4_0a::y4_0t)).length 8) 0=some (rows rw_iiiiiiLu (y4_0a::y4_0t))) (qkk_ rwf_iiiiiiLu _ _ rfl) <|
     ww (p:=fits (Nat.add ((y4_0a::y4_0t)).length 1) 80=true) (fits_ok hy5 (by have:=hy5; show (_:Nat)+_≤_; omega)) <|
     ww (p:=qm_ [(i6 (y3_.1)),(i6 (y3_.2.1)),(i6 (y3_.2.2.1)),(i6 (y3_.2.2.2.1)),(i6 (y3_.2.2.2.2.1)),(i6 (y3_.2.2.2.2.2.1)),(nlV y4_1),(Value.int .u64 (y3_.2.2.2.2.2.2.2))]=true) (rfl) <|
     ww (p:=qm_ (rows rw_iiiiiiLu (y4_0a::y4_0t))=true) (qc6_ rwf_iiiiiiLu _) <|
     ww (p:=rows rw_iiiiiiLu (y4_0a::y4_0t) ++ [(i6 (y3_.1)),(i6 (y3_.2.1)),(i6 (y3_.2.2.1)),(i6 (y3_.2.2.2.1)),(i6 (y3_.2.2.2.2.1)),(i6 (y3_.2.2.2.2.2.1)),(nlV y4_1),(Value.int .u64 (y3_.2.2.2.2.2.2.2))]=(rows rw_iiiiiiLu ((y4_0a::y4_0t) ++ [((y3_.1),(y3_.2.1),(y3_.2.2.1),(y3_.2.2.2.1),(y3_.2.2.2.2.1),(y3_.2.2.2.2.2.1),y4_1,(y3_.2.2.2.2.2.2.2))]))) (qij_ rw_iiiiiiLu (y4_0a::y4_0t) [((y3_.1),(y3_.2.1),(y3_.2.2.1),(y3_.2.2.2.1),(y3_.2.2.2.2.1),(y3_.2.2.2.2.2.1),y4_1,(y3_.2.2.2.2.2.2.2))]) <|
     ww (p:=Nat.add ((y4_0a::y4_0t)).length 1=(((y4_0a::y4_0t) ++ [((y3_.1),(y3_.2.1),(y3_.2.2.1),(y3_.2.2.2.1),(y3_.2.2.2.2.1),(y3_.2.2.2.2.2.1),y4_1,(y3_.2.2.2.2.2.2.2))])).length) (by simp) <|
     ww (qb_ rwf_iiiiiiLu ((y4_0a::y4_0t) ++ [((y3_.1),(y3_.2.1),(y3_.2.2.1),(y3_.2.2.2.1),(y3_.2.2.2.2.1),(y3_.2.2.2.2.2.1),y4_1,(y3_.2.2.2.2.2.2.2))]) 46) <|
     ee) (by kernel_rfl)
  ·rw[if_neg hy1] at h
   obtain rfl:=oI h
   exact runC2 hm (kW [5] [] 1 0) (zz 5 (xdF hy1) <|
    ee) (by kernel_rfl)
 | cons x2a x2t=>
  dsimp only at h
  by_cases hy1:x3<(((x0).l.length:Nat):Int)
  ·rw[if_pos hy1] at h
   obtain⟨hy2,h⟩:=gd h
   obtain⟨y3_,hy3,h⟩:=oB h
   obtain⟨⟨y4_0,y4_1⟩,hy4,h⟩:=oB h
   dsimp only at h
   have k0:=fun {A L l} (k:PL A L l)=>zz 5 (xdT hy1) <|
    zz 12 (xk1 (x0).num (x0).off (x0).cap hy2) <|
    zz 13 (lk2 hy3 (qj_ hy2)) <|
    k
   cases y4_0 with
   | nil=>
    dsimp only at h
    obtain rfl:=oI h
    exact runC2 hm (kW [0,1,5,6] [(0,3,false)] 1 0) (k0 <|
     ww (qdp_ n (rnd:=rnd) x0 x1 x3 (y3_.1) (y3_.2.1) (y3_.2.2.1) (y3_.2.2.2.1) (y3_.2.2.2.2.1) (y3_.2.2.2.2.2.1) (y3_.2.2.2.2.2.2.2) ((x2a::x2t),([]:List Int),0) (([]:List R8),y4_1) hy4) <|
     ww (qb_ rwf_iiiiiiLu (x2a::x2t) 46) <|
     ll 23 ⟨(kW [0,1,5,6,7,8] [(0,0,true),(1,1,false)] 3 0),(qr_ x0 x1 x3 (y3_.1) (y3_.2.1) (y3_.2.2.1) (y3_.2.2.2.1) (y3_.2.2.2.2.1) (y3_.2.2.2.2.2.1) (y3_.2.2.2.2.2.2.2) (([]:List R8),y4_1)).1,(qr_ x0 x1 x3 (y3_.1) (y3_.2.1) (y3_.2.2.1) (y3_.2.2.2.1) (y3_.2.2.2.2.1) (y3_.2.2.2.2.2.1) (y3_.2.2.2.2.2.2.2) (([]:List R8),y4_1)).2⟩ <|
     ee) (by kernel_rfl)
   | cons y4_0a y4_0t=>
    dsimp only at h
    obtain⟨hy5,h⟩:=gd h
    obtain rfl:=oI h
    exact runC2 hm (kW [0,1,5,6] [(0,3,true)] 1 0) (k0 <|
     ww (qdp_ n (rnd:=rnd) x0 x1 x3 (y3_.1) (y3_.2.1) (y3_.2.2.1) (y3_.2.2.2.1) (y3_.2.2.2.2.1) (y3_.2.2.2.2.2.1) (y3_.2.2.2.2.2.2.2) ((x2a::x2t),([]:List Int),0) ((y4_0a::y4_0t),y4_1) hy4) <|
     ww (qb_ rwf_iiiiiiLu (x2a::x2t) 46) <|
     ll 23 ⟨(kW [0,1,5,6,7,8] [(0,0,true),(1,1,false)] 3 0),(qr_ x0 x1 x3 (y3_.1) (y3_.2.1) (y3_.2.2.1) (y3_.2.2.2.1) (y3_.2.2.2.2.1) (y3_.2.2.2.2.2.1) (y3_.2.2.2.2.2.2.2) ((y4_0a::y4_0t),y4_1)).1,(qr_ x0 x1 x3 (y3_.1) (y3_.2.1) (y3_.2.2.1) (y3_.2.2.2.1) (y3_.2.2.2.2.1) (y3_.2.2.2.2.2.1) (y3_.2.2.2.2.2.2.2) ((y4_0a::y4_0t),y4_1)).2⟩ <|
     yy 27 (.app ⟨none,rows rw_iiiiiiLu (y4_0a::y4_0t),(rows rw_iiiiiiLu ((y4_0a::y4_0t) ++ [((y3_.1),(y3_.2.1),(y3_.2.2.1),(y3_.2.2.2.1),(y3_.2.2.2.2.1),(y3_.2.2.2.2.2.1),y4_1,(y3_.2.2.2.2.2.2.2))])),(((y4_0a::y4_0t) ++ [((y3_.1),(y3_.2.1),(y3_.2.2.1),(y3_.2.2.2.1),(y3_.2.2.2.2.1),(y3_.2.2.2.2.2.1),y4_1,(y3_.2.2.2.2.2.2.2))])).length,false⟩) <|
     ww (p:=0<1) ((by decide)) <|
     ww (p:=rdT (layT (rows rw_iiiiiiLu (y4_0a::y4_0t))) (Nat.mul ((y4_0a::y4_0t)).length 8) 0=some (rows rw_iiiiiiLu (y4_0a::y4_0t))) (qkk_ rwf_iiiiiiLu _ _ rfl) <|
     ww (p:=fits (Nat.add ((y4_0a::y4_0t)).length 1) 80=true) (fits_ok hy5 (by have:=hy5; show (_:Nat)+_≤_; omega)) <|
     ww (p:=qm_ [(i6 (y3_.1)),(i6 (y3_.2.1)),(i6 (y3_.2.2.1)),(i6 (y3_.2.2.2.1)),(i6 (y3_.2.2.2.2.1)),(i6 (y3_.2.2.2.2.2.1)),(nlV y4_1),(Value.int .u64 (y3_.2.2.2.2.2.2.2))]=true) (rfl) <|
     ww (p:=qm_ (rows rw_iiiiiiLu (y4_0a::y4_0t))=true) (qc6_ rwf_iiiiiiLu _) <|
     ww (p:=rows rw_iiiiiiLu (y4_0a::y4_0t) ++ [(i6 (y3_.1)),(i6 (y3_.2.1)),(i6 (y3_.2.2.1)),(i6 (y3_.2.2.2.1)),(i6 (y3_.2.2.2.2.1)),(i6 (y3_.2.2.2.2.2.1)),(nlV y4_1),(Value.int .u64 (y3_.2.2.2.2.2.2.2))]=(rows rw_iiiiiiLu ((y4_0a::y4_0t) ++ [((y3_.1),(y3_.2.1),(y3_.2.2.1),(y3_.2.2.2.1),(y3_.2.2.2.2.1),(y3_.2.2.2.2.2.1),y4_1,(y3_.2.2.2.2.2.2.2))]))) (qij_ rw_iiiiiiLu (y4_0a::y4_0t) [((y3_.1),(y3_.2.1),(y3_.2.2.1),(y3_.2.2.2.1),(y3_.2.2.2.2.1),(y3_.2.2.2.2.2.1),y4_1,(y3_.2.2.2.2.2.2.2))]) <|
     ww (p:=Nat.add ((y4_0a::y4_0t)).length 1=(((y4_0a::y4_0t) ++ [((y3_.1),(y3_.2.1),(y3_.2.2.1),(y3_.2.2.2.1),(y3_.2.2.2.2.1),(y3_.2.2.2.2.2.1),y4_1,(y3_.2.2.2.2.2.2.2))])).length) (by simp) <|
     ww (qb_ rwf_iiiiiiLu ((y4_0a::y4_0t) ++ [((y3_.1),(y3_.2.1),(y3_.2.2.1),(y3_.2.2.2.1),(y3_.2.2.2.2.1),(y3_.2.2.2.2.2.1),y4_1,(y3_.2.2.2.2.2.2.2))]) 46) <|
     ee) (by kernel_rfl)
  ·rw[if_neg hy1] at h
   obtain rfl:=oI h
   exact runC2 hm (kW [5] [(0,0,true)] 1 0) (zz 5 (xdF hy1) <|
    ww (qb_ rwf_iiiiiiLu (x2a::x2t) 46) <|
    ee) (by kernel_rfl)
theorem qhw_ (n:Nat){rnd:Option Nat}(x0:W8)(x1:Int)(st:List R8×Int)(r:List R8)(h:qem_ n x0 x1 st=some r):qpq_ rnd x0 x1 st r:=
 CG.iter (b:=qp_ P 57 [false,false,true,false,true,true]) (by kernel_rfl) (body:=qz_ n x0 x1) (S:=qel_ x0 x1) (X:=qbs_ x0 x1)
  (fun s s' h=>qjf_ n x0 x1 s (.inl s') h)
  (fun s r h=>qjf_ n x0 x1 s (.inr r) h)
  (fun r=>by intro hx; cases hx) h
def qf_ (n:Nat)(a0:W8)(a1:Int):Option ((Unit) ⊕ (List R8)):=
 (qem_ n a0 a1 (([]:List R8),0)).bind fun c1_=>
 match c1_ with
 | []=>
  some (.inl ())
 | c1_a::c1_t=>
  some (.inr (c1_a::c1_t))
theorem qg_ (n:Nat)(a0:W8)(a1:Int)(r:(Unit) ⊕ (List R8))(h:qf_ n a0 a1=some r):qrq_ a0 a1 r:=by
 unfold qf_ at h
 obtain⟨c1_,hc1,h⟩:=oB h
 cases c1_ with
 | nil=>
  dsimp only at h
  obtain rfl:=oI h
  exact runF2 hm (kW [4] [] 0 0) (ww (qhw_ n (rnd:=none) a0 a1 (([]:List R8),0) ([]:List R8) hc1) <|
   ll 8 ⟨(kW [0,1,5,6] [] 1 0),(qbs_ a0 a1 ([]:List R8)).1,(qbs_ a0 a1 ([]:List R8)).2⟩ <|
   ee) (by kernel_rfl)
 | cons c1_a c1_t=>
  dsimp only at h
  obtain rfl:=oI h
  exact runF2 hm (kW [4] [(0,0,true)] 1 0) (ww (qhw_ n (rnd:=none) a0 a1 (([]:List R8),0) (c1_a::c1_t) hc1) <|
   ll 8 ⟨(kW [0,1,5,6] [] 1 0),(qbs_ a0 a1 (c1_a::c1_t)).1,(qbs_ a0 a1 (c1_a::c1_t)).2⟩ <|
   ww (qb_ rwf_iiiiiiLu (c1_a::c1_t) 46) <|
   ee) (by kernel_rfl)

def qmt_ (a0:W8)(a1:Int)(r:W8):Value:=match r with
 | o0=>(wlV o0)
def qmu_ (a0:W8)(a1:Int)(r:W8):AH:=match r with
 | o0=>⟨sB [],0,0⟩
abbrev qto_ (a0:W8)(a1:Int)(r:W8):Prop:=Gv P (.func 35) [(wlV a0),(i6 a1)] ⟨sB [],0,0⟩ (qmt_ a0 a1 r) (qmu_ a0 a1 r)
abbrev qtp_ (a0:W8)(a1:Int)(r:W8)(ins outs:BL):CallA:=⟨0,ins,qmt_ a0 a1 r,qmu_ a0 a1 r,outs⟩
def qe3_ (n:Nat)(a0:W8)(a1:Int):Option (W8):=
 (qd9_ n a0 a1).bind fun c1_=>
 if c1_=true then
  (qd_ n a0 a1).bind fun c3_=>
  if 0≤a1 then
   if 0≤c3_ then
    if hc6:(a1).toNat≤(c3_).toNat∧(c3_).toNat≤(a0).l.length then
     match qf_ n (wlSub rwf_iiiiiiLu a0 (a1).toNat (c3_).toNat hc6) (w64 ((0:Int)-a1)) with
     | none=>none
     | some (.inl _)=>
      some (wl0:W8)
     | some (.inr c7_)=>
      if hc8:c7_.length≤9223372036854775807 then
       some (frzR qc_ c7_ hc8)
      else none
    else none
   else none
  else none
 else
  some (wl0:W8)
theorem qqh_ (n:Nat)(a0:W8)(a1:Int)(r:W8)(h:qe3_ n a0 a1=some r):qto_ a0 a1 r:=by
 unfold qe3_ at h
 obtain⟨c1_,hc1,h⟩:=oB h
 have k0:=fun {A L l} (k:PL A L l)=>yy 6 (.call (qnw_ a0 a1 c1_ [] [])) <|
  ww (qkt_ n a0 a1 c1_ hc1) <|
  k
 by_cases hc2:c1_=true
 ·rw[if_pos hc2] at h
  obtain⟨c3_,hc3,h⟩:=oB h
  obtain⟨hc4,h⟩:=gd h
  obtain⟨hc5,h⟩:=gd h
  obtain⟨hc6,h⟩:=gdD h
  have k2:=fun {A L l} (k:PL A L l)=>yy 7 (vf) <|
   ww (p:=(Value.bool (!c1_))=(Value.bool false)) (vBn hc2) <|
   yy 14 (.call (qe2_ a0 a1 c3_ [] [])) <|
   ww (qdr_ n a0 a1 c3_ hc3) <|
   yy 15 (.pur (wlV (wlSub rwf_iiiiiiLu a0 (a1).toNat (c3_).toNat hc6))) <|
   ww (p:=qjt_ P 22 (wlV a0) (some (i6 a1)) (some (i6 c3_)) none Ax.h0=some ((wlV (wlSub rwf_iiiiiiLu a0 (a1).toNat (c3_).toNat hc6)),Ax.h0)) (slWL (e:=46) rwf_iiiiiiLu a0 (by kernel_rfl) (by kernel_rfl) (qsu_ hc4) (qsu_ hc5) hc6) <|
   k
  rcases hc7:qf_ n (wlSub rwf_iiiiiiLu a0 (a1).toNat (c3_).toNat hc6) (w64 ((0:Int)-a1)) with _ | (⟨⟩ | c7_)
  ·rw[hc7] at h; cases h
  ·rw[hc7] at h
   dsimp only at h
   obtain rfl:=oI h
   exact runF2 hm ⟨[4],[],0,0,[],true,[],[],[4]⟩ (k0 <|
    k2 <|
    yy 18 (.call (qi_ (wlSub rwf_iiiiiiLu a0 (a1).toNat (c3_).toNat hc6) (w64 ((0:Int)-a1)) (.inl ()) [] [])) <|
    ww (qg_ n (wlSub rwf_iiiiiiLu a0 (a1).toNat (c3_).toNat hc6) (w64 ((0:Int)-a1)) (.inl ()) hc7) <|
    ee) (by kernel_rfl)
  ·rw[hc7] at h
   dsimp only at h
   replace h:=gdD h
   obtain⟨hc8,h⟩:=h
   obtain rfl:=oI h
   exact runF2 hm ⟨[4],[],0,0,[(0,Nat.add (2*codL (rows rw_iiiiiiLu c7_)+1) 64)],true,[],[],[]⟩ (k0 <|
    k2 <|
    yy 18 (.call (qi_ (wlSub rwf_iiiiiiLu a0 (a1).toNat (c3_).toNat hc6) (w64 ((0:Int)-a1)) (.inr c7_) [] [(0,0,true)])) <|
    ww (qg_ n (wlSub rwf_iiiiiiLu a0 (a1).toNat (c3_).toNat hc6) (w64 ((0:Int)-a1)) (.inr c7_) hc7) <|
    ww (qb_ rwf_iiiiiiLu c7_ 46) <|
    ww (qf5_ ql_ q2_ qc_ c7_) <|
    ee) (by kernel_rfl)
 ·rw[if_neg hc2] at h
  obtain rfl:=oI h
  exact runF2 hm ⟨[4],[],0,0,[],true,[],[],[4]⟩ (k0 <|
   yy 7 (vt) <|
   ww (p:=(Value.bool (!c1_))=(Value.bool true)) (vBn (Bool.eq_false_iff.2 hc2)) <|
   ee) (by kernel_rfl)

def qlk_ (a0:W8)(r:Int):Value:=match r with
 | o0=>(Value.int .u64 o0)
def qll_ (a0:W8)(r:Int):AH:=match r with
 | o0=>⟨sB [],0,0⟩
abbrev qsf_ (a0:W8)(r:Int):Prop:=Gv P (.func 34) [(wlV a0)] ⟨sB [],0,0⟩ (qlk_ a0 r) (qll_ a0 r)
abbrev qlm_ (a0:W8)(r:Int)(ins outs:BL):CallA:=⟨0,ins,qlk_ a0 r,qll_ a0 r,outs⟩
def qfe_ (x0:W8)(st:Int×Int):XSt:=match st with
 | (x1,x2)=>(sT 19 [(0,(wlV x0)),(3,(Value.int .u64 x1)),(4,(i6 x2))],[],⟨sB [],0,0⟩)
def qds_ (x0:W8)(r:Int):Ex×XSt:=match r with
 | z0=>(.exit 0,(sT 19 [(3,(Value.int .u64 z0))],[],⟨sB [],0,0⟩))
abbrev qqi_ (rnd:Option Nat)(x0:W8)(st:Int×Int)(c:Ex×XSt):Prop:=CG P rnd (fnN P 34) 0 (qp_ P 34 [false,false,true,false,true,true]) (qfe_ x0 st) c
abbrev qqj_ (rd:Option Nat)(x0:W8)(st:Int×Int)(r:Int):Prop:=CG P rd (fnN P 34) 0 (qp_ P 34 [false,true,false,true,true]) (qfe_ x0 st) (qds_ x0 r)
def qb3_ (n:Nat)(x0:W8)(st:Int×Int):Option ((Int×Int) ⊕ (Int)):=match st with
 | (x1,x2)=>
  if x2<(((x0).l.length:Nat):Int) then
   if 0≤x2∧x2<(((x0).l.length:Nat):Int) then
    ((some (((x0).l).getD (x2).toNat (0,0,0,0,0,0,nl0,0)))).bind fun y3_=>
    some (.inl ((bOr .u64 x1 (y3_.2.2.2.2.2.2.2)),(w64 (x2+1))))
   else none
  else
   some (.inr x1)
def qg1_ (n:Nat)(x0:W8)(st:Int×Int):Option (Int):=iterM (qb3_ n x0) n st
theorem qjx_ (n:Nat){rnd:Option Nat}(x0:W8)(st:Int×Int)(o:(Int×Int) ⊕ (Int))(h:qb3_ n x0 st=some o):qqi_ rnd x0 st (Sum.elim (fun s=>(.normal,qfe_ x0 s)) (fun r=>qds_ x0 r) o):=by
 obtain⟨x1,x2⟩:=st
 unfold qb3_ at h
 dsimp only at h
 by_cases hy1:x2<(((x0).l.length:Nat):Int)
 ·rw[if_pos hy1] at h
  obtain⟨hy2,h⟩:=gd h
  obtain⟨y3_,hy3,h⟩:=oB h
  obtain rfl:=oI h
  exact runC2 hm (kW [0,3,4] [] 0 0) (zz 5 (xdT hy1) <|
   zz 12 (xk1 (x0).num (x0).off (x0).cap hy2) <|
   zz 13 (fk25 (x0).num (Nat.add (x0).off ((x2).toNat*8))) <|
   zz 14 (lk26 hy3 (qj_ hy2)) <|
   ee) (by kernel_rfl)
 ·rw[if_neg hy1] at h
  obtain rfl:=oI h
  exact runC2 hm (kW [3] [] 0 0) (zz 5 (xdF hy1) <|
   ee) (by kernel_rfl)
theorem qn6_ (n:Nat){rnd:Option Nat}(x0:W8)(st:Int×Int)(r:Int)(h:qg1_ n x0 st=some r):qqj_ rnd x0 st r:=
 CG.iter (b:=qp_ P 34 [false,false,true,false,true,true]) (by kernel_rfl) (body:=qb3_ n x0) (S:=qfe_ x0) (X:=qds_ x0)
  (fun s s' h=>qjx_ n x0 s (.inl s') h)
  (fun s r h=>qjx_ n x0 s (.inr r) h)
  (fun r=>by intro hx; cases hx) h
def qdi_ (n:Nat)(a0:W8):Option (Int):=
 (qg1_ n a0 (0,0)).bind fun c1_=>
 some c1_
theorem qjg_ (n:Nat)(a0:W8)(r:Int)(h:qdi_ n a0=some r):qsf_ a0 r:=by
 unfold qdi_ at h
 obtain⟨c1_,hc1,h⟩:=oB h
 obtain rfl:=oI h
 exact runF2 hm (kW [2] [] 0 0) (ww (qn6_ n (rnd:=none) a0 (0,0) c1_ hc1) <|
  ll 8 ⟨(kW [0,3,4] [] 0 0),(qds_ a0 c1_).1,(qds_ a0 c1_).2⟩ <|
  ee) (by kernel_rfl)

def qln_ (a0:Int)(r:Bool):Value:=match r with
 | o0=>(bO o0)
def qlo_ (a0:Int)(r:Bool):AH:=match r with
 | o0=>⟨sB [],0,0⟩
abbrev qsg_ (a0:Int)(r:Bool):Prop:=Gv P (.func 39) [(i6 a0)] ⟨sB [],0,0⟩ (qln_ a0 r) (qlo_ a0 r)
abbrev qcp_ (a0:Int)(r:Bool)(ins outs:BL):CallA:=⟨0,ins,qln_ a0 r,qlo_ a0 r,outs⟩
def qv_ (n:Nat)(a0:Int):Option (Bool):=
 if a0 ≥ 0 then
  if a0≤63 then
   some true
  else
   some false
 else
  some false
theorem qbt_ (n:Nat)(a0:Int)(r:Bool)(h:qv_ n a0=some r):qsg_ a0 r:=by
 unfold qv_ at h
 by_cases hc1:a0 ≥ 0
 ·rw[if_pos hc1] at h
  have k0:=fun {A L l} (k:PL A L l)=>zz 4 (xdT hc1) <|
   k
  by_cases hc2:a0≤63
  ·rw[if_pos hc2] at h
   obtain rfl:=oI h
   exact runF2 hm (kW [2] [] 0 0) (k0 <|
    zz 7 (xdT hc2) <|
    ee) (by kernel_rfl)
  ·rw[if_neg hc2] at h
   obtain rfl:=oI h
   exact runF2 hm (kW [2] [] 0 0) (k0 <|
    zz 7 (xdF hc2) <|
    ee) (by kernel_rfl)
 ·rw[if_neg hc1] at h
  obtain rfl:=oI h
  exact runF2 hm (kW [2] [] 0 0) (zz 4 (xdF hc1) <|
   ee) (by kernel_rfl)

def qmv_ (a0:W8)(a1 r:Int):Value:=match r with
 | o0=>(i6 o0)
def qmw_ (a0:W8)(a1 r:Int):AH:=match r with
 | o0=>⟨sB [],0,0⟩
abbrev qtq_ (a0:W8)(a1 r:Int):Prop:=Gv P (.func 40) [(wlV a0),(i6 a1)] ⟨sB [],0,0⟩ (qmv_ a0 a1 r) (qmw_ a0 a1 r)
abbrev qtr_ (a0:W8)(a1 r:Int)(ins outs:BL):CallA:=⟨0,ins,qmv_ a0 a1 r,qmw_ a0 a1 r,outs⟩
def qe4_ (n:Nat)(a0:W8)(a1:Int):Option (Int):=
 (qd9_ n a0 a1).bind fun c1_=>
 if c1_=true then
  (qd_ n a0 a1).bind fun c3_=>
  some c3_
 else
  some 0
theorem qqk_ (n:Nat)(a0:W8)(a1 r:Int)(h:qe4_ n a0 a1=some r):qtq_ a0 a1 r:=by
 unfold qe4_ at h
 obtain⟨c1_,hc1,h⟩:=oB h
 have k0:=fun {A L l} (k:PL A L l)=>yy 6 (.call (qnw_ a0 a1 c1_ [] [])) <|
  ww (qkt_ n a0 a1 c1_ hc1) <|
  k
 by_cases hc2:c1_=true
 ·rw[if_pos hc2] at h
  obtain⟨c3_,hc3,h⟩:=oB h
  obtain rfl:=oI h
  exact runF2 hm (kW [4] [] 0 0) (k0 <|
   yy 7 (vf) <|
   ww (p:=(Value.bool (!c1_))=(Value.bool false)) (vBn hc2) <|
   yy 12 (.call (qe2_ a0 a1 c3_ [] [])) <|
   ww (qdr_ n a0 a1 c3_ hc3) <|
   ee) (by kernel_rfl)
 ·rw[if_neg hc2] at h
  obtain rfl:=oI h
  exact runF2 hm (kW [4] [] 0 0) (k0 <|
   yy 7 (vt) <|
   ww (p:=(Value.bool (!c1_))=(Value.bool true)) (vBn (Bool.eq_false_iff.2 hc2)) <|
   ee) (by kernel_rfl)

def qlp_ (a0:W8)(a1 a2 a3 a4 a5 a6:Int)(r:Bool):Value:=match r with
 | o0=>(bO o0)
def qlq_ (a0:W8)(a1 a2 a3 a4 a5 a6:Int)(r:Bool):AH:=match r with
 | o0=>⟨sB [],0,0⟩
abbrev qsh_ (a0:W8)(a1 a2 a3 a4 a5 a6:Int)(r:Bool):Prop:=Gv P (.func 10) [(wlV a0),(i6 a1),(Value.agg #[(i6 a2),(i6 a3),(i6 a4),(i6 a5),(i6 a6)])] ⟨sB [],0,0⟩ (qlp_ a0 a1 a2 a3 a4 a5 a6 r) (qlq_ a0 a1 a2 a3 a4 a5 a6 r)
abbrev qhz_ (a0:W8)(a1 a2 a3 a4 a5 a6:Int)(r:Bool)(ins outs:BL):CallA:=⟨0,ins,qlp_ a0 a1 a2 a3 a4 a5 a6 r,qlq_ a0 a1 a2 a3 a4 a5 a6 r,outs⟩
def qff_ (x0:W8)(x1 x2 x3 x4 x5 x6 x7 st:Int):XSt:=match st with
 | x8=>(sT 89 [(0,(wlV x0)),(1,(i6 x1)),(5,(pN 0 0)),(7,(i6 x7)),(8,(i6 x8))],[],⟨sB [(0,(cB [(i6 x2),(i6 x3),(i6 x4),(i6 x5),(i6 x6)] 35))],1,0⟩)
def qb4_ (x0:W8)(x1 x2 x3 x4 x5 x6 x7:Int)(r:(Unit) ⊕ (Unit)):Ex×XSt:=match r with
 | .inl _=>(.ret,(sT 89 [(6,(bO false))],[],⟨sB [],0,0⟩))
 | .inr _=>(.exit 0,(sT 89 [],[],⟨sB [],0,0⟩))
abbrev qql_ (rd:Option Nat)(x0:W8)(x1 x2 x3 x4 x5 x6 x7 st:Int)(r:(Unit) ⊕ (Unit)):Prop:=CG P rd (fnN P 10) 0 (qp_ P 10 [false,true,false,true,true,true]) (qff_ x0 x1 x2 x3 x4 x5 x6 x7 st) (qb4_ x0 x1 x2 x3 x4 x5 x6 x7 r)
def qb5_ (n:Nat)(x0:W8)(x1 x2 x3 x4 x5 x6 x7 st:Int):Option ((Int) ⊕ ((Unit) ⊕ (Unit))):=match st with
 | x8=>
  if x8<(((x0).l.length:Nat):Int) then
   if 0≤x8∧x8<(((x0).l.length:Nat):Int) then
    ((some (((x0).l).getD (x8).toNat (0,0,0,0,0,0,nl0,0)))).bind fun y3_=>
    if 0≤(IntKind.u64.wrap x2) then
     ((some (bAnd .u64 (shrV .u64 (y3_.2.2.2.2.2.2.2) (IntKind.u64.wrap x2)) (1:Int)))).bind fun y5_=>
     if y5_=1 then
      if x8<x1 then
       some (.inr (.inl ()))
      else
       if x8 ≥ x7 then
        some (.inr (.inl ()))
       else
        some (.inl (w64 (x8+1)))
     else
      some (.inl (w64 (x8+1)))
    else none
   else none
  else
   some (.inr (.inr ()))
def qfg_ (n:Nat)(x0:W8)(x1 x2 x3 x4 x5 x6 x7 st:Int):Option ((Unit) ⊕ (Unit)):=iterM (qb5_ n x0 x1 x2 x3 x4 x5 x6 x7) n st
theorem qjy_ (n:Nat){rnd:Option Nat}(x0:W8)(x1 x2 x3 x4 x5 x6 x7 x8:Int)(o:(Int) ⊕ ((Unit) ⊕ (Unit)))(h:qb5_ n x0 x1 x2 x3 x4 x5 x6 x7 x8=some o):CG P rnd (fnN P 10) 0 (qp_ P 10 [false,false,true,false,true,true,true]) (qff_ x0 x1 x2 x3 x4 x5 x6 x7 x8) (Sum.elim (fun s=>(.normal,qff_ x0 x1 x2 x3 x4 x5 x6 x7 s)) (fun r=>qb4_ x0 x1 x2 x3 x4 x5 x6 x7 r) o):=by
 unfold qb5_ at h
 dsimp only at h
 by_cases hy1:x8<(((x0).l.length:Nat):Int)
 ·rw[if_pos hy1] at h
  obtain⟨hy2,h⟩:=gd h
  obtain⟨y3_,hy3,h⟩:=oB h
  obtain⟨hy4,h⟩:=gd h
  obtain⟨y5_,hy5,h⟩:=oB h
  have k0:=fun {A L l} (k:PL A L l)=>zz 5 (xdT hy1) <|
   zz 12 (xk1 (x0).num (x0).off (x0).cap hy2) <|
   zz 13 (fk25 (x0).num (Nat.add (x0).off ((x8).toNat*8))) <|
   zz 14 (lk26 hy3 (qj_ hy2)) <|
   yy 18 (.pur (Value.int .u64 (shrV .u64 (y3_.2.2.2.2.2.2.2) (IntKind.u64.wrap x2)))) <|
   ww (p:=opBin P .shr 41 (.tmp 72) (.tmp 75) (Value.int .u64 (y3_.2.2.2.2.2.2.2)) (Value.int .u64 (IntKind.u64.wrap x2)) Ax.h0=some ((Value.int .u64 (shrV .u64 (y3_.2.2.2.2.2.2.2) (IntKind.u64.wrap x2))),Ax.h0)) (qz9_ hy4) <|
   zz 19 (xnmK (k:=.u64) hy5) <|
   k
  by_cases hy6:y5_=1
  ·rw[if_pos hy6] at h
   have k7:=fun {A L l} (k:PL A L l)=>zz 20 (xeT hy6) <|
    k
   by_cases hy7:x8<x1
   ·rw[if_pos hy7] at h
    obtain rfl:=oI h
    exact runC2 hm (kW [6] [] 0 0) (k0 <|
     k7 <|
     zz 24 (xdT hy7) <|
     ee) (by kernel_rfl)
   ·rw[if_neg hy7] at h
    have k8:=fun {A L l} (k:PL A L l)=>zz 24 (xdF hy7) <|
     k
    by_cases hy8:x8 ≥ x7
    ·rw[if_pos hy8] at h
     obtain rfl:=oI h
     exact runC2 hm (kW [6] [] 0 0) (k0 <|
      k7 <|
      k8 <|
      zz 28 (xdT hy8) <|
      ee) (by kernel_rfl)
    ·rw[if_neg hy8] at h
     obtain rfl:=oI h
     exact runC2 hm (kW [0,1,5,7,8] [(0,0,false)] 1 0) (k0 <|
      k7 <|
      k8 <|
      zz 28 (xdF hy8) <|
      ee) (by kernel_rfl)
  ·rw[if_neg hy6] at h
   obtain rfl:=oI h
   exact runC2 hm (kW [0,1,5,7,8] [(0,0,false)] 1 0) (k0 <|
    zz 20 (xeF hy6) <|
    ee) (by kernel_rfl)
 ·rw[if_neg hy1] at h
  obtain rfl:=oI h
  exact runC2 hm (kW [] [] 0 0) (zz 5 (xdF hy1) <|
   ee) (by kernel_rfl)
theorem qh4_ (n:Nat){rnd:Option Nat}(x0:W8)(x1 x2 x3 x4 x5 x6 x7 st:Int)(r:(Unit) ⊕ (Unit))(h:qfg_ n x0 x1 x2 x3 x4 x5 x6 x7 st=some r):qql_ rnd x0 x1 x2 x3 x4 x5 x6 x7 st r:=
 CG.iter (b:=qp_ P 10 [false,false,true,false,true,true,true]) (by kernel_rfl) (body:=qb5_ n x0 x1 x2 x3 x4 x5 x6 x7) (S:=qff_ x0 x1 x2 x3 x4 x5 x6 x7) (X:=qb4_ x0 x1 x2 x3 x4 x5 x6 x7)
  (fun s s' h=>qjy_ n x0 x1 x2 x3 x4 x5 x6 x7 s (.inl s') h)
  (fun s r h=>qjy_ n x0 x1 x2 x3 x4 x5 x6 x7 s (.inr r) h)
  (fun r=>by intro hx; rcases r with _ | _<;>cases hx) h
def qb1_ (n:Nat)(a0:W8)(a1 a2 a3 a4 a5 a6:Int):Option (Bool):=
 (qe_ n a0).bind fun c1_=>
 if c1_=0 then
  if a1<0 then
   some false
  else
   if a1 ≥ (((a0).l.length:Nat):Int) then
    some false
   else
    (qv_ n a2).bind fun c5_=>
    if c5_=true then
     if 0≤a1∧a1<(((a0).l.length:Nat):Int) then
      ((some (((a0).l).getD (a1).toNat (0,0,0,0,0,0,nl0,0)))).bind fun c8_=>
      if a3<(c8_.2.2.1) then
       some false
      else
       if a4 > (c8_.2.2.2.2.1) then
        some false
       else
        if a3 > a4 then
         some false
        else
         (qe4_ n a0 a1).bind fun c12_=>
         match qfg_ n a0 a1 a2 a3 a4 a5 a6 c12_ 0 with
         | none=>none
         | some (.inl _)=>
          some false
         | some (.inr _)=>
          some true
     else none
    else
     some false
 else
  some false
theorem qgk_ (n:Nat)(a0:W8)(a1 a2 a3 a4 a5 a6:Int)(r:Bool)(h:qb1_ n a0 a1 a2 a3 a4 a5 a6=some r):qsh_ a0 a1 a2 a3 a4 a5 a6 r:=by
 unfold qb1_ at h
 obtain⟨c1_,hc1,h⟩:=oB h
 have k0:=fun {A L l} (k:PL A L l)=>yy 6 (.call (q1_ a0 c1_ [] [])) <|
  ww (qw_ n a0 c1_ hc1) <|
  k
 by_cases hc2:c1_=0
 ·rw[if_pos hc2] at h
  have k2:=fun {A L l} (k:PL A L l)=>zz 7 (xnF hc2) <|
   k
  by_cases hc3:a1<0
  ·rw[if_pos hc3] at h
   obtain rfl:=oI h
   exact runF2 hm (kW [6] [] 0 0) (k0 <|
    k2 <|
    zz 10 (xdT hc3) <|
    ee) (by kernel_rfl)
  ·rw[if_neg hc3] at h
   have k3:=fun {A L l} (k:PL A L l)=>zz 10 (xdF hc3) <|
    k
   by_cases hc4:a1 ≥ (((a0).l.length:Nat):Int)
   ·rw[if_pos hc4] at h
    obtain rfl:=oI h
    exact runF2 hm (kW [6] [] 0 0) (k0 <|
     k2 <|
     k3 <|
     zz 16 (xdT hc4) <|
     ee) (by kernel_rfl)
   ·rw[if_neg hc4] at h
    obtain⟨c5_,hc5,h⟩:=oB h
    have k4:=fun {A L l} (k:PL A L l)=>zz 16 (xdF hc4) <|
     yy 21 (.call (qcp_ a2 c5_ [] [])) <|
     ww (qbt_ n a2 c5_ hc5) <|
     k
    by_cases hc6:c5_=true
    ·rw[if_pos hc6] at h
     obtain⟨hc7,h⟩:=gd h
     obtain⟨c8_,hc8,h⟩:=oB h
     have k7:=fun {A L l} (k:PL A L l)=>yy 22 (vf) <|
      ww (p:=(Value.bool (!c5_))=(Value.bool false)) (vBn hc6) <|
      zz 30 (xk1 (a0).num (a0).off (a0).cap hc7) <|
      zz 31 (fk16 (a0).num (Nat.add (a0).off ((a1).toNat*8))) <|
      zz 32 (lk17 hc8 (qj_ hc7)) <|
      k
     by_cases hc9:a3<(c8_.2.2.1)
     ·rw[if_pos hc9] at h
      obtain rfl:=oI h
      exact runF2 hm (kW [6] [] 0 0) (k0 <|
       k2 <|
       k3 <|
       k4 <|
       k7 <|
       zz 33 (xdT hc9) <|
       ee) (by kernel_rfl)
     ·rw[if_neg hc9] at h
      have k12:=fun {A L l} (k:PL A L l)=>zz 33 (xdF hc9) <|
       zz 41 (xk1 (a0).num (a0).off (a0).cap hc7) <|
       zz 42 (fk18 (a0).num (Nat.add (a0).off ((a1).toNat*8))) <|
       zz 43 (lk19 hc8 (qj_ hc7)) <|
       k
      by_cases hc10:a4 > (c8_.2.2.2.2.1)
      ·rw[if_pos hc10] at h
       obtain rfl:=oI h
       exact runF2 hm (kW [6] [] 0 0) (k0 <|
        k2 <|
        k3 <|
        k4 <|
        k7 <|
        k12 <|
        zz 44 (xdT hc10) <|
        ee) (by kernel_rfl)
      ·rw[if_neg hc10] at h
       have k16:=fun {A L l} (k:PL A L l)=>zz 44 (xdF hc10) <|
        k
       by_cases hc11:a3 > a4
       ·rw[if_pos hc11] at h
        obtain rfl:=oI h
        exact runF2 hm (kW [6] [] 0 0) (k0 <|
         k2 <|
         k3 <|
         k4 <|
         k7 <|
         k12 <|
         k16 <|
         zz 53 (xdT hc11) <|
         ee) (by kernel_rfl)
       ·rw[if_neg hc11] at h
        obtain⟨c12_,hc12,h⟩:=oB h
        have k17:=fun {A L l} (k:PL A L l)=>zz 53 (xdF hc11) <|
         yy 59 (.call (qtr_ a0 a1 c12_ [] [])) <|
         ww (qqk_ n a0 a1 c12_ hc12) <|
         k
        rcases hc13:qfg_ n a0 a1 a2 a3 a4 a5 a6 c12_ 0 with _ | (⟨⟩ | ⟨⟩)
        ·rw[hc13] at h; cases h
        ·rw[hc13] at h
         dsimp only at h
         obtain rfl:=oI h
         exact runF2 hm (kW [6] [] 0 0) (k0 <|
          k2 <|
          k3 <|
          k4 <|
          k7 <|
          k12 <|
          k16 <|
          k17 <|
          ww (qh4_ n (rnd:=none) a0 a1 a2 a3 a4 a5 a6 c12_ 0 (.inl ()) hc13) <|
          ll 65 ⟨(kW [0,1,5,7,8] [(0,0,false)] 1 0),(qb4_ a0 a1 a2 a3 a4 a5 a6 c12_ (.inl ())).1,(qb4_ a0 a1 a2 a3 a4 a5 a6 c12_ (.inl ())).2⟩ <|
          ee) (by kernel_rfl)
        ·rw[hc13] at h
         dsimp only at h
         obtain rfl:=oI h
         exact runF2 hm (kW [6] [] 0 0) (k0 <|
          k2 <|
          k3 <|
          k4 <|
          k7 <|
          k12 <|
          k16 <|
          k17 <|
          ww (qh4_ n (rnd:=none) a0 a1 a2 a3 a4 a5 a6 c12_ 0 (.inr ()) hc13) <|
          ll 65 ⟨(kW [0,1,5,7,8] [(0,0,false)] 1 0),(qb4_ a0 a1 a2 a3 a4 a5 a6 c12_ (.inr ())).1,(qb4_ a0 a1 a2 a3 a4 a5 a6 c12_ (.inr ())).2⟩ <|
          ee) (by kernel_rfl)
    ·rw[if_neg hc6] at h
     obtain rfl:=oI h
     exact runF2 hm (kW [6] [] 0 0) (k0 <|
      k2 <|
      k3 <|
      k4 <|
      yy 22 (vt) <|
      ww (p:=(Value.bool (!c5_))=(Value.bool true)) (vBn (Bool.eq_false_iff.2 hc6)) <|
      ee) (by kernel_rfl)
 ·rw[if_neg hc2] at h
  obtain rfl:=oI h
  exact runF2 hm (kW [6] [] 0 0) (k0 <|
   zz 7 (xnT hc2) <|
   ee) (by kernel_rfl)

def qjh_ (a0:W8):List Value:=[(wlV a0)]
def qji_ (a0:W8):AH:=⟨sB [],0,0⟩
def qjj_ (a0:W8)(r:NL):Value:=match r with
 | o0=>(nlV o0)
def qgl_ (a0:W8)(r:NL):AH:=match r with
 | o0=>⟨sB [],0,0⟩
abbrev qpr_ (a0:W8)(r:NL):Prop:=Gv P (.func 36) (qjh_ a0) (qji_ a0) (qjj_ a0 r) (qgl_ a0 r)
abbrev qjk_ (a0:W8)(r:NL)(ins outs:BL):CallA:=⟨0,ins,qjj_ a0 r,qgl_ a0 r,outs⟩
def qd0_ (x0:W8)(x2:Nat)(x3:Int)(st:List Int×Int):XSt:=match st with
 | (x1,x4)=>(sT 42 [(0,(wlV x0)),(3,(sN 0 0 x2 x2)),(4,(i6 x3)),(5,(i6 x4))],[],⟨sB [(0,(cB (iv x1) 3))],1,0⟩)
def qcu_ (x0:W8)(x2:Nat)(x3:Int)(r:List Int):Ex×XSt:=match r with
 | z0=>(.exit 2,(sT 42 [(0,(wlV x0)),(3,(sN 0 0 x2 x2)),(4,(i6 x3))],[],⟨sB [(0,(cB (iv z0) 3))],1,0⟩))
abbrev qn7_ (rnd:Option Nat)(x0:W8)(x2:Nat)(x3:Int)(st:List Int×Int)(c:Ex×XSt):Prop:=CG P rnd (fnN P 36) 0 (qp_ P 36 [false,false,true,false,false,true,false,false,true,false,true,true,true,true]) (qd0_ x0 x2 x3 st) c
abbrev qn8_ (rd:Option Nat)(x0:W8)(x2:Nat)(x3:Int)(st:List Int×Int)(r:List Int):Prop:=CG P rd (fnN P 36) 0 (qp_ P 36 [false,true,false,false,true,false,false,true,false,true,true,true,true]) (qd0_ x0 x2 x3 st) (qcu_ x0 x2 x3 r)
def qbe_ (n:Nat)(x0:W8)(x2:Nat)(x3:Int)(st:List Int×Int):Option ((List Int×Int) ⊕ (List Int)):=match st with
 | (x1,x4)=>
  if 0≤x3∧x3<(((x0).l.length:Nat):Int) then
   ((some (((x0).l).getD (x3).toNat (0,0,0,0,0,0,nl0,0)))).bind fun y2_=>
   if x4<((((y2_.2.2.2.2.2.2.1)).l.length:Nat):Int) then
    if 0≤x4∧x4<((((y2_.2.2.2.2.2.2.1)).l.length:Nat):Int) then
     if (x4).toNat<(((y2_.2.2.2.2.2.2.1)).l).length then
      ((some ((((y2_.2.2.2.2.2.2.1)).l).getD (x4).toNat 0))).bind fun y6_=>
      if 0≤y6_∧y6_<((x2:Nat):Int) then
       if (y6_).toNat<(x1).length then
        some (.inl (((x1).set (y6_).toNat x3),(w64 (x4+1))))
       else none
      else none
     else none
    else none
   else
    some (.inr x1)
  else none
def qf2_ (n:Nat)(x0:W8)(x2:Nat)(x3:Int)(st:List Int×Int):Option (List Int):=iterM (qbe_ n x0 x2 x3) n st
theorem qh5_ (n:Nat){rnd:Option Nat}(x0:W8)(x2:Nat)(x3:Int)(st:List Int×Int)(o:(List Int×Int) ⊕ (List Int))(h:qbe_ n x0 x2 x3 st=some o):qn7_ rnd x0 x2 x3 st (Sum.elim (fun s=>(.normal,qd0_ x0 x2 x3 s)) (fun r=>qcu_ x0 x2 x3 r) o):=by
 obtain⟨x1,x4⟩:=st
 unfold qbe_ at h
 dsimp only at h
 obtain⟨hy1,h⟩:=gd h
 obtain⟨y2_,hy2,h⟩:=oB h
 have k0:=fun {A L l} (k:PL A L l)=>zz 5 (xk1 (x0).num (x0).off (x0).cap hy1) <|
  zz 6 (fk11 (x0).num (Nat.add (x0).off ((x3).toNat*8))) <|
  zz 7 (lk12 hy2 (qj_ hy1)) <|
  k
 by_cases hy3:x4<((((y2_.2.2.2.2.2.2.1)).l.length:Nat):Int)
 ·rw[if_pos hy3] at h
  obtain⟨hy4,h⟩:=gd h
  obtain⟨hy5,h⟩:=gd h
  obtain⟨y6_,hy6,h⟩:=oB h
  obtain⟨hy7,h⟩:=gd h
  obtain⟨hy8,h⟩:=gd h
  obtain rfl:=oI h
  exact runC2 hm (kW [0,3,4,5] [(0,0,true)] 1 0) (k0 <|
   zz 9 (xdT hy3) <|
   zz 16 (xk1 (x0).num (x0).off (x0).cap hy1) <|
   zz 17 (fk11 (x0).num (Nat.add (x0).off ((x3).toNat*8))) <|
   zz 18 (lk12 hy2 (qj_ hy1)) <|
   zz 20 (xk8 (Nat.add ((y2_.2.2.2.2.2.2.1)).num 64) ((y2_.2.2.2.2.2.2.1)).off ((y2_.2.2.2.2.2.2.1)).cap hy4) <|
   zz 21 (nk9 hy6 hy5) <|
   zz 23 (xk13 0 x2 hy7) <|
   z2 24 (stI (x3) hy8) <|
   ww (qco_ ((x1).set (y6_).toNat x3) 3) <|
   ee) (by kernel_rfl)
 ·rw[if_neg hy3] at h
  obtain rfl:=oI h
  exact runC2 hm (kW [0,3,4] [(0,0,true)] 1 0) (k0 <|
   zz 9 (xdF hy3) <|
   ww (qco_ x1 3) <|
   ee) (by kernel_rfl)
theorem ql5_ (n:Nat){rnd:Option Nat}(x0:W8)(x2:Nat)(x3:Int)(st:List Int×Int)(r:List Int)(h:qf2_ n x0 x2 x3 st=some r):qn8_ rnd x0 x2 x3 st r:=
 CG.iter (b:=qp_ P 36 [false,false,true,false,false,true,false,false,true,false,true,true,true,true]) (by kernel_rfl) (body:=qbe_ n x0 x2 x3) (S:=qd0_ x0 x2 x3) (X:=qcu_ x0 x2 x3)
  (fun s s' h=>qh5_ n x0 x2 x3 s (.inl s') h)
  (fun s r h=>qh5_ n x0 x2 x3 s (.inr r) h)
  (fun r=>by intro hx; cases hx) h
def qd1_ (x0:W8)(x2:Nat)(st:List Int×Int):XSt:=match st with
 | (x1,x3)=>(sT 42 [(0,(wlV x0)),(3,(sN 0 0 x2 x2)),(4,(i6 x3))],[],⟨sB [(0,(cB (iv x1) 3))],1,0⟩)
def qcv_ (x0:W8)(x2:Nat)(r:List Int):Ex×XSt:=match r with
 | z0=>(.exit 0,(sT 42 [(3,(sN 0 0 x2 x2))],[],⟨sB [(0,(cB (iv z0) 3))],1,0⟩))
abbrev qn9_ (rnd:Option Nat)(x0:W8)(x2:Nat)(st:List Int×Int)(c:Ex×XSt):Prop:=CG P rnd (fnN P 36) 0 (qp_ P 36 [false,false,true,false,true,true,true,true]) (qd1_ x0 x2 st) c
abbrev qoa_ (rd:Option Nat)(x0:W8)(x2:Nat)(st:List Int×Int)(r:List Int):Prop:=CG P rd (fnN P 36) 0 (qp_ P 36 [false,true,false,true,true,true,true]) (qd1_ x0 x2 st) (qcv_ x0 x2 r)
def qbf_ (n:Nat)(x0:W8)(x2:Nat)(st:List Int×Int):Option ((List Int×Int) ⊕ (List Int)):=match st with
 | (x1,x3)=>
  if x3<(((x0).l.length:Nat):Int) then
   (qf2_ n x0 x2 x3 (x1,0)).bind fun y2_=>
   some (.inl (y2_,(w64 (x3+1))))
  else
   some (.inr x1)
def qf3_ (n:Nat)(x0:W8)(x2:Nat)(st:List Int×Int):Option (List Int):=iterM (qbf_ n x0 x2) n st
theorem qh6_ (n:Nat){rnd:Option Nat}(x0:W8)(x2:Nat)(st:List Int×Int)(o:(List Int×Int) ⊕ (List Int))(h:qbf_ n x0 x2 st=some o):qn9_ rnd x0 x2 st (Sum.elim (fun s=>(.normal,qd1_ x0 x2 s)) (fun r=>qcv_ x0 x2 r) o):=by
 obtain⟨x1,x3⟩:=st
 unfold qbf_ at h
 dsimp only at h
 by_cases hy1:x3<(((x0).l.length:Nat):Int)
 ·rw[if_pos hy1] at h
  obtain⟨y2_,hy2,h⟩:=oB h
  obtain rfl:=oI h
  exact runC2 hm (kW [0,3,4] [(0,0,true)] 1 0) (zz 5 (xdT hy1) <|
   ww (ql5_ n (rnd:=rnd) x0 x2 x3 (x1,0) y2_ hy2) <|
   ww (qco_ x1 3) <|
   ll 12 ⟨(kW [0,3,4,5] [(0,0,true)] 1 0),(qcu_ x0 x2 x3 y2_).1,(qcu_ x0 x2 x3 y2_).2⟩ <|
   ww (qco_ y2_ 3) <|
   ee) (by kernel_rfl)
 ·rw[if_neg hy1] at h
  obtain rfl:=oI h
  exact runC2 hm (kW [3] [(0,0,true)] 1 0) (zz 5 (xdF hy1) <|
   ww (qco_ x1 3) <|
   ee) (by kernel_rfl)
theorem ql6_ (n:Nat){rnd:Option Nat}(x0:W8)(x2:Nat)(st:List Int×Int)(r:List Int)(h:qf3_ n x0 x2 st=some r):qoa_ rnd x0 x2 st r:=
 CG.iter (b:=qp_ P 36 [false,false,true,false,true,true,true,true]) (by kernel_rfl) (body:=qbf_ n x0 x2) (S:=qd1_ x0 x2) (X:=qcv_ x0 x2)
  (fun s s' h=>qh6_ n x0 x2 s (.inl s') h)
  (fun s r h=>qh6_ n x0 x2 s (.inr r) h)
  (fun r=>by intro hx; cases hx) h
def qbu_ (n:Nat)(a0:W8):Option (NL):=
 (qe_ n a0).bind fun c1_=>
 if c1_=0 then
  if 0≤(((a0).l.length:Nat):Int) then
   if ((((a0).l.length:Nat):Int)).toNat*8≤140737488355328 then
    if 0≤(0:Int)∧(0:Int)<((((((a0).l.length:Nat):Int)).toNat:Nat):Int) then
     if ((0:Int)).toNat<((List.replicate ((((a0).l.length:Nat):Int)).toNat (0:Int))).length then
      (qf3_ n a0 (((((a0).l.length:Nat):Int)).toNat) ((((List.replicate ((((a0).l.length:Nat):Int)).toNat (0:Int))).set ((0:Int)).toNat (-1:Int)),0)).bind fun c7_=>
      if (((((a0).l.length:Nat):Int)).toNat)=c7_.length then
       if hc9:c7_.length≤140737488355328 then
        some (frzL c7_ hc9)
       else none
      else none
     else none
    else none
   else none
  else none
 else
  some nl0
theorem qhx_ (n:Nat)(a0:W8)(r:NL)(h:qbu_ n a0=some r):qpr_ a0 r:=by
 unfold qbu_ at h
 obtain⟨c1_,hc1,h⟩:=oB h
 have k0:=fun {A L l} (k:PL A L l)=>yy 5 (.call (q1_ a0 c1_ [] [])) <|
  ww (qw_ n a0 c1_ hc1) <|
  k
 by_cases hc2:c1_=0
 ·rw[if_pos hc2] at h
  obtain⟨hc3,h⟩:=gd h
  obtain⟨hc4,h⟩:=gd h
  obtain⟨hc5,h⟩:=gd h
  obtain⟨hc6,h⟩:=gd h
  obtain⟨c7_,hc7,h⟩:=oB h
  obtain⟨hc8,h⟩:=gd h
  obtain⟨hc9,h⟩:=gdD h
  obtain rfl:=oI h
  have k0_:Gv P (.func 36) (qjh_ a0) (qji_ a0) (Value.slice (some ⟨Nat.add (2*cod c7_+1) 64,0,some 1⟩) (((((a0).l.length:Nat):Int)).toNat) (Nat.add big (((((a0).l.length:Nat):Int)).toNat))) (qgl_ a0 (frzL c7_ hc9)):=runF2 hm ⟨[2],[],0,0,[(0,Nat.add (2*cod c7_+1) 64)],true,[],[],[]⟩ (k0 <|
  zz 6 (xnF hc2) <|
  yy 11 (.mk ((((a0).l.length:Nat):Int)).toNat (iv (List.replicate ((((a0).l.length:Nat):Int)).toNat (0:Int)))) <|
  ww (p:=natOf (i6 (((a0).l.length:Nat):Int))=some ((((a0).l.length:Nat):Int)).toNat) (qeu_ hc3) <|
  ww (p:=natOf (i6 (((a0).l.length:Nat):Int))=some ((((a0).l.length:Nat):Int)).toNat) (qeu_ hc3) <|
  ww (p:=fits ((((a0).l.length:Nat):Int)).toNat 8=true) (fits_ok hc4 (by omega)) <|
  ww (p:=isZ8 [(i6 (0:Int))]=false) (rfl) <|
  ww (p:=reps [(i6 (0:Int))] ((((a0).l.length:Nat):Int)).toNat=(iv (List.replicate ((((a0).l.length:Nat):Int)).toNat (0:Int)))) (qz5_ _) <|
  zz 15 (xk13 0 ((((a0).l.length:Nat):Int)).toNat hc5) <|
  z2 16 (stI ((-1:Int)) hc6) <|
  ww (ql6_ n (rnd:=none) a0 (((((a0).l.length:Nat):Int)).toNat) ((((List.replicate ((((a0).l.length:Nat):Int)).toNat (0:Int))).set ((0:Int)).toNat (-1:Int)),0) c7_ hc7) <|
  ww (qco_ (((List.replicate ((((a0).l.length:Nat):Int)).toNat (0:Int))).set ((0:Int)).toNat (-1:Int)) 3) <|
  ll 21 ⟨(kW [0,3,4] [(0,0,true)] 1 0),(qcv_ a0 (((((a0).l.length:Nat):Int)).toNat) c7_).1,(qcv_ a0 (((((a0).l.length:Nat):Int)).toNat) c7_).2⟩ <|
  ww (qon_ ql_ q2_ c7_) <|
  ee) (by kernel_rfl)
  have k1_:=gvLen (fn:=fun m_=>(Value.slice (some ⟨Nat.add (2*cod c7_+1) 64,0,some 1⟩) m_ (Nat.add big m_))) hc8 k0_
  exact k1_
 ·rw[if_neg hc2] at h
  obtain rfl:=oI h
  exact runF2 hm ⟨[2],[],0,0,[],true,[],[],[2]⟩ (k0 <|
   zz 6 (xnT hc2) <|
   ee) (by kernel_rfl)

def qmx_ (a0:W8)(a1:Int)(a2:W8)(r:(Int) ⊕ (List R8)):Value:=match r with
 | .inl o0=>(Value.tuple #[(Value.slice none 0 0),(i6 o0)])
 | .inr o0=>(Value.tuple #[(sN 0 0 (o0).length (Nat.add big 8)),(i6 (0:Int))])
def qmy_ (a0:W8)(a1:Int)(a2:W8)(r:(Int) ⊕ (List R8)):AH:=match r with
 | .inl o0=>⟨sB [],0,0⟩
 | .inr o0=>⟨sB [(0,(cB (rows rw_iiiiiiLu o0) 46))],1,0⟩
abbrev qts_ (a0:W8)(a1:Int)(a2:W8)(r:(Int) ⊕ (List R8)):Prop:=Gv P (.func 37) [(wlV a0),(i6 a1),(wlV a2)] ⟨sB [],0,0⟩ (qmx_ a0 a1 a2 r) (qmy_ a0 a1 a2 r)
abbrev qgm_ (a0:W8)(a1:Int)(a2:W8)(r:(Int) ⊕ (List R8))(ins outs:BL):CallA:=⟨0,ins,qmx_ a0 a1 a2 r,qmy_ a0 a1 a2 r,outs⟩
def qfx_ (x0:W8)(x1:Int)(x2:W8)(x3 x4 x6 x7 x8 x9 x10 x11 x12 x14:Int)(st:List R8×List Int×Int):XSt:=match st with
 | (x5,x13,x15)=>(sT 151 [(0,(wlV x0)),(1,(i6 x1)),(2,(wlV x2)),(9,(i6 x3)),(10,(i6 x4)),(11,(slR x5 0 8)),(12,(i6 x6)),(13,(pN 1 0)),(14,(i6 x15))],[],⟨sB [(0,(nblkR rw_iiiiiiLu x5 46)),(1,(cB [(i6 x7),(i6 x8),(i6 x9),(i6 x10),(i6 x11),(i6 x12),(slN x13 2),(Value.int .u64 x14)] 46)),(2,(nblk x13 3))],3,0⟩)
def q0_ (x0:W8)(x1:Int)(x2:W8)(x3 x4 x6 x7 x8 x9 x10 x11 x12 x14:Int)(r:List R8×NL):Ex×XSt:=match r with
 | (z0,z1)=>(.exit 2,(sT 151 [(0,(wlV x0)),(1,(i6 x1)),(2,(wlV x2)),(9,(i6 x3)),(10,(i6 x4)),(11,(slR z0 0 8)),(12,(i6 x6)),(13,(pN 1 0))],[],⟨sB [(0,(nblkR rw_iiiiiiLu z0 46)),(1,(cB [(i6 x7),(i6 x8),(i6 x9),(i6 x10),(i6 x11),(i6 x12),(nlV z1),(Value.int .u64 x14)] 46))],2,0⟩))
abbrev qrr_ (rnd:Option Nat)(x0:W8)(x1:Int)(x2:W8)(x3 x4 x6 x7 x8 x9 x10 x11 x12 x14:Int)(st:List R8×List Int×Int)(c:Ex×XSt):Prop:=CG P rnd (fnN P 37) 0 (qp_ P 37 [false,false,true,false,true,true,false,false,true,false,false,true,false,true,true,true,true,true,true,true,true,true]) (qfx_ x0 x1 x2 x3 x4 x6 x7 x8 x9 x10 x11 x12 x14 st) c
abbrev qrs_ (rd:Option Nat)(x0:W8)(x1:Int)(x2:W8)(x3 x4 x6 x7 x8 x9 x10 x11 x12 x14:Int)(st:List R8×List Int×Int)(r:List R8×NL):Prop:=CG P rd (fnN P 37) 0 (qp_ P 37 [false,true,false,true,true,false,false,true,false,false,true,false,true,true,true,true,true,true,true,true,true]) (qfx_ x0 x1 x2 x3 x4 x6 x7 x8 x9 x10 x11 x12 x14 st) (q0_ x0 x1 x2 x3 x4 x6 x7 x8 x9 x10 x11 x12 x14 r)
def qcf_ (n:Nat)(x0:W8)(x1:Int)(x2:W8)(x3 x4 x6 x7 x8 x9 x10 x11 x12 x14:Int)(st:List R8×List Int×Int):Option ((List R8×List Int×Int) ⊕ (List R8×NL)):=match st with
 | (x5,x13,x15)=>
  match x5 with
  | []=>
   match x13 with
   | []=>
    if 0≤x6∧x6<(((x0).l.length:Nat):Int) then
     ((some (((x0).l).getD (x6).toNat (0,0,0,0,0,0,nl0,0)))).bind fun y2_=>
     if x15<((((y2_.2.2.2.2.2.2.1)).l.length:Nat):Int) then
      if 0≤x15∧x15<((((y2_.2.2.2.2.2.2.1)).l.length:Nat):Int) then
       if (x15).toNat<(((y2_.2.2.2.2.2.2.1)).l).length then
        ((some ((((y2_.2.2.2.2.2.2.1)).l).getD (x15).toNat 0))).bind fun y6_=>
        if y6_ > x1 then
         some (.inl (([]:List R8),[(w64 (y6_+x4))],(w64 (x15+1))))
        else
         some (.inl (([]:List R8),[y6_],(w64 (x15+1))))
       else none
      else none
     else
      some (.inr (([]:List R8),nl0))
    else none
   | x13a::x13t=>
    if 0≤x6∧x6<(((x0).l.length:Nat):Int) then
     ((some (((x0).l).getD (x6).toNat (0,0,0,0,0,0,nl0,0)))).bind fun y2_=>
     if x15<((((y2_.2.2.2.2.2.2.1)).l.length:Nat):Int) then
      if 0≤x15∧x15<((((y2_.2.2.2.2.2.2.1)).l.length:Nat):Int) then
       if (x15).toNat<(((y2_.2.2.2.2.2.2.1)).l).length then
        ((some ((((y2_.2.2.2.2.2.2.1)).l).getD (x15).toNat 0))).bind fun y6_=>
        if y6_ > x1 then
         if (((x13a::x13t)).length+1)*8≤140737488355328 then
          some (.inl (([]:List R8),((x13a::x13t) ++ [(w64 (y6_+x4))]),(w64 (x15+1))))
         else none
        else
         if (((x13a::x13t)).length+1)*8≤140737488355328 then
          some (.inl (([]:List R8),((x13a::x13t) ++ [y6_]),(w64 (x15+1))))
         else none
       else none
      else none
     else
      if hy4:(x13a::x13t).length≤140737488355328 then
       some (.inr (([]:List R8),(frzL (x13a::x13t) hy4)))
      else none
    else none
  | x5a::x5t=>
   match x13 with
   | []=>
    if 0≤x6∧x6<(((x0).l.length:Nat):Int) then
     ((some (((x0).l).getD (x6).toNat (0,0,0,0,0,0,nl0,0)))).bind fun y2_=>
     if x15<((((y2_.2.2.2.2.2.2.1)).l.length:Nat):Int) then
      if 0≤x15∧x15<((((y2_.2.2.2.2.2.2.1)).l.length:Nat):Int) then
       if (x15).toNat<(((y2_.2.2.2.2.2.2.1)).l).length then
        ((some ((((y2_.2.2.2.2.2.2.1)).l).getD (x15).toNat 0))).bind fun y6_=>
        if y6_ > x1 then
         some (.inl ((x5a::x5t),[(w64 (y6_+x4))],(w64 (x15+1))))
        else
         some (.inl ((x5a::x5t),[y6_],(w64 (x15+1))))
       else none
      else none
     else
      some (.inr ((x5a::x5t),nl0))
    else none
   | x13a::x13t=>
    if 0≤x6∧x6<(((x0).l.length:Nat):Int) then
     ((some (((x0).l).getD (x6).toNat (0,0,0,0,0,0,nl0,0)))).bind fun y2_=>
     if x15<((((y2_.2.2.2.2.2.2.1)).l.length:Nat):Int) then
      if 0≤x15∧x15<((((y2_.2.2.2.2.2.2.1)).l.length:Nat):Int) then
       if (x15).toNat<(((y2_.2.2.2.2.2.2.1)).l).length then
        ((some ((((y2_.2.2.2.2.2.2.1)).l).getD (x15).toNat 0))).bind fun y6_=>
        if y6_ > x1 then
         if (((x13a::x13t)).length+1)*8≤140737488355328 then
          some (.inl ((x5a::x5t),((x13a::x13t) ++ [(w64 (y6_+x4))]),(w64 (x15+1))))
         else none
        else
         if (((x13a::x13t)).length+1)*8≤140737488355328 then
          some (.inl ((x5a::x5t),((x13a::x13t) ++ [y6_]),(w64 (x15+1))))
         else none
       else none
      else none
     else
      if hy4:(x13a::x13t).length≤140737488355328 then
       some (.inr ((x5a::x5t),(frzL (x13a::x13t) hy4)))
      else none
    else none
def qfy_ (n:Nat)(x0:W8)(x1:Int)(x2:W8)(x3 x4 x6 x7 x8 x9 x10 x11 x12 x14:Int)(st:List R8×List Int×Int):Option (List R8×NL):=iterM (qcf_ n x0 x1 x2 x3 x4 x6 x7 x8 x9 x10 x11 x12 x14) n st
theorem qkw_ (n:Nat){rnd:Option Nat}(x0:W8)(x1:Int)(x2:W8)(x3 x4 x6 x7 x8 x9 x10 x11 x12 x14:Int)(st:List R8×List Int×Int)(o:(List R8×List Int×Int) ⊕ (List R8×NL))(h:qcf_ n x0 x1 x2 x3 x4 x6 x7 x8 x9 x10 x11 x12 x14 st=some o):qrr_ rnd x0 x1 x2 x3 x4 x6 x7 x8 x9 x10 x11 x12 x14 st (Sum.elim (fun s=>(.normal,qfx_ x0 x1 x2 x3 x4 x6 x7 x8 x9 x10 x11 x12 x14 s)) (fun r=>q0_ x0 x1 x2 x3 x4 x6 x7 x8 x9 x10 x11 x12 x14 r) o):=by
 obtain⟨x5,x13,x15⟩:=st
 unfold qcf_ at h
 dsimp only at h
 cases x5 with
 | nil=>
  dsimp only at h
  cases x13 with
  | nil=>
   dsimp only at h
   obtain⟨hy1,h⟩:=gd h
   obtain⟨y2_,hy2,h⟩:=oB h
   have k0:=fun {A L l} (k:PL A L l)=>zz 5 (xk1 (x0).num (x0).off (x0).cap hy1) <|
    zz 6 (fk11 (x0).num (Nat.add (x0).off ((x6).toNat*8))) <|
    zz 7 (lk12 hy2 (qj_ hy1)) <|
    k
   by_cases hy3:x15<((((y2_.2.2.2.2.2.2.1)).l.length:Nat):Int)
   ·rw[if_pos hy3] at h
    obtain⟨hy4,h⟩:=gd h
    obtain⟨hy5,h⟩:=gd h
    obtain⟨y6_,hy6,h⟩:=oB h
    have k3:=fun {A L l} (k:PL A L l)=>zz 9 (xdT hy3) <|
     zz 16 (xk1 (x0).num (x0).off (x0).cap hy1) <|
     zz 17 (fk11 (x0).num (Nat.add (x0).off ((x6).toNat*8))) <|
     zz 18 (lk12 hy2 (qj_ hy1)) <|
     zz 20 (xk8 (Nat.add ((y2_.2.2.2.2.2.2.1)).num 64) ((y2_.2.2.2.2.2.2.1)).off ((y2_.2.2.2.2.2.2.1)).cap hy4) <|
     zz 21 (nk9 hy6 hy5) <|
     k
    by_cases hy7:y6_ > x1
    ·rw[if_pos hy7] at h
     obtain rfl:=oI h
     exact runC2 hm (kW [0,1,2,9,10,11,12,13,14] [(1,1,false),(2,4,false)] 3 0) (k0 <|
      k3 <|
      zz 27 (xdT hy7) <|
      ee) (by kernel_rfl)
    ·rw[if_neg hy7] at h
     obtain rfl:=oI h
     exact runC2 hm (kW [0,1,2,9,10,11,12,13,14] [(1,1,false),(2,4,false)] 3 0) (k0 <|
      k3 <|
      zz 27 (xdF hy7) <|
      ee) (by kernel_rfl)
   ·rw[if_neg hy3] at h
    obtain rfl:=oI h
    exact runC2 hm ⟨[0,1,2,9,10,11,12,13],[(1,1,false)],2,0,[],true,[46],[],[]⟩ (k0 <|
     zz 9 (xdF hy3) <|
     ee) (by kernel_rfl)
  | cons x13a x13t=>
   dsimp only at h
   obtain⟨hy1,h⟩:=gd h
   obtain⟨y2_,hy2,h⟩:=oB h
   have k0:=fun {A L l} (k:PL A L l)=>zz 5 (xk1 (x0).num (x0).off (x0).cap hy1) <|
    zz 6 (fk11 (x0).num (Nat.add (x0).off ((x6).toNat*8))) <|
    zz 7 (lk12 hy2 (qj_ hy1)) <|
    k
   by_cases hy3:x15<((((y2_.2.2.2.2.2.2.1)).l.length:Nat):Int)
   ·rw[if_pos hy3] at h
    obtain⟨hy4,h⟩:=gd h
    obtain⟨hy5,h⟩:=gd h
    obtain⟨y6_,hy6,h⟩:=oB h
    have k3:=fun {A L l} (k:PL A L l)=>zz 9 (xdT hy3) <|
     zz 16 (xk1 (x0).num (x0).off (x0).cap hy1) <|
     zz 17 (fk11 (x0).num (Nat.add (x0).off ((x6).toNat*8))) <|
     zz 18 (lk12 hy2 (qj_ hy1)) <|
     zz 20 (xk8 (Nat.add ((y2_.2.2.2.2.2.2.1)).num 64) ((y2_.2.2.2.2.2.2.1)).off ((y2_.2.2.2.2.2.2.1)).cap hy4) <|
     zz 21 (nk9 hy6 hy5) <|
     k
    by_cases hy7:y6_ > x1
    ·rw[if_pos hy7] at h
     obtain⟨hy8,h⟩:=gd h
     obtain rfl:=oI h
     exact runC2 hm (kW [0,1,2,9,10,11,12,13,14] [(1,1,false),(2,4,true)] 3 0) (k0 <|
      k3 <|
      zz 27 (xdT hy7) <|
      yy 37 (.app ⟨none,iv (x13a::x13t),(iv ((x13a::x13t) ++ [(w64 (y6_+x4))])),(((x13a::x13t) ++ [(w64 (y6_+x4))])).length,false⟩) <|
      ww (p:=0<1) ((by decide)) <|
      ww (p:=rdT (layT (iv (x13a::x13t))) (Nat.mul ((x13a::x13t)).length 1) 0=some (iv (x13a::x13t))) (iv_rd _) <|
      ww (p:=fits (Nat.add ((x13a::x13t)).length 1) 8=true) (fits_ok hy8 (by have:=hy8; show (_:Nat)+_≤_; omega)) <|
      ww (p:=qm_ [(i6 (w64 (y6_+x4)))]=true) (rfl) <|
      ww (p:=qm_ (iv (x13a::x13t))=true) (qpf_ _) <|
      ww (p:=iv (x13a::x13t) ++ [(i6 (w64 (y6_+x4)))]=(iv ((x13a::x13t) ++ [(w64 (y6_+x4))]))) (by simp[iv]) <|
      ww (p:=Nat.add ((x13a::x13t)).length 1=(((x13a::x13t) ++ [(w64 (y6_+x4))])).length) (by simp) <|
      ww (qco_ ((x13a::x13t) ++ [(w64 (y6_+x4))]) 3) <|
      ee) (by kernel_rfl)
    ·rw[if_neg hy7] at h
     obtain⟨hy8,h⟩:=gd h
     obtain rfl:=oI h
     exact runC2 hm (kW [0,1,2,9,10,11,12,13,14] [(1,1,false),(2,4,true)] 3 0) (k0 <|
      k3 <|
      zz 27 (xdF hy7) <|
      yy 33 (.app ⟨none,iv (x13a::x13t),(iv ((x13a::x13t) ++ [y6_])),(((x13a::x13t) ++ [y6_])).length,false⟩) <|
      ww (p:=0<1) ((by decide)) <|
      ww (p:=rdT (layT (iv (x13a::x13t))) (Nat.mul ((x13a::x13t)).length 1) 0=some (iv (x13a::x13t))) (iv_rd _) <|
      ww (p:=fits (Nat.add ((x13a::x13t)).length 1) 8=true) (fits_ok hy8 (by have:=hy8; show (_:Nat)+_≤_; omega)) <|
      ww (p:=qm_ [(i6 y6_)]=true) (rfl) <|
      ww (p:=qm_ (iv (x13a::x13t))=true) (qpf_ _) <|
      ww (p:=iv (x13a::x13t) ++ [(i6 y6_)]=(iv ((x13a::x13t) ++ [y6_]))) (by simp[iv]) <|
      ww (p:=Nat.add ((x13a::x13t)).length 1=(((x13a::x13t) ++ [y6_])).length) (by simp) <|
      ww (qco_ ((x13a::x13t) ++ [y6_]) 3) <|
      ee) (by kernel_rfl)
   ·rw[if_neg hy3] at h
    obtain⟨hy4,h⟩:=gdD h
    obtain rfl:=oI h
    exact runC2 hm ⟨[0,1,2,9,10,11,12,13],[(1,1,false)],2,0,[(2,Nat.add (2*cod (x13a::x13t)+1) 64)],true,[],[],[]⟩ (k0 <|
     zz 9 (xdF hy3) <|
     ww (qon_ ql_ q2_ (x13a::x13t)) <|
     ee) (by kernel_rfl)
 | cons x5a x5t=>
  dsimp only at h
  cases x13 with
  | nil=>
   dsimp only at h
   obtain⟨hy1,h⟩:=gd h
   obtain⟨y2_,hy2,h⟩:=oB h
   have k0:=fun {A L l} (k:PL A L l)=>zz 5 (xk1 (x0).num (x0).off (x0).cap hy1) <|
    zz 6 (fk11 (x0).num (Nat.add (x0).off ((x6).toNat*8))) <|
    zz 7 (lk12 hy2 (qj_ hy1)) <|
    k
   by_cases hy3:x15<((((y2_.2.2.2.2.2.2.1)).l.length:Nat):Int)
   ·rw[if_pos hy3] at h
    obtain⟨hy4,h⟩:=gd h
    obtain⟨hy5,h⟩:=gd h
    obtain⟨y6_,hy6,h⟩:=oB h
    have k3:=fun {A L l} (k:PL A L l)=>zz 9 (xdT hy3) <|
     zz 16 (xk1 (x0).num (x0).off (x0).cap hy1) <|
     zz 17 (fk11 (x0).num (Nat.add (x0).off ((x6).toNat*8))) <|
     zz 18 (lk12 hy2 (qj_ hy1)) <|
     zz 20 (xk8 (Nat.add ((y2_.2.2.2.2.2.2.1)).num 64) ((y2_.2.2.2.2.2.2.1)).off ((y2_.2.2.2.2.2.2.1)).cap hy4) <|
     zz 21 (nk9 hy6 hy5) <|
     k
    by_cases hy7:y6_ > x1
    ·rw[if_pos hy7] at h
     obtain rfl:=oI h
     exact runC2 hm (kW [0,1,2,9,10,11,12,13,14] [(0,0,true),(1,1,false),(2,4,false)] 3 0) (k0 <|
      k3 <|
      zz 27 (xdT hy7) <|
      ww (qb_ rwf_iiiiiiLu (x5a::x5t) 46) <|
      ee) (by kernel_rfl)
    ·rw[if_neg hy7] at h
     obtain rfl:=oI h
     exact runC2 hm (kW [0,1,2,9,10,11,12,13,14] [(0,0,true),(1,1,false),(2,4,false)] 3 0) (k0 <|
      k3 <|
      zz 27 (xdF hy7) <|
      ww (qb_ rwf_iiiiiiLu (x5a::x5t) 46) <|
      ee) (by kernel_rfl)
   ·rw[if_neg hy3] at h
    obtain rfl:=oI h
    exact runC2 hm ⟨[0,1,2,9,10,11,12,13],[(0,0,true),(1,1,false)],2,0,[],true,[46],[],[]⟩ (k0 <|
     zz 9 (xdF hy3) <|
     ww (qb_ rwf_iiiiiiLu (x5a::x5t) 46) <|
     ww (qb_ rwf_iiiiiiLu (x5a::x5t) 46) <|
     ee) (by kernel_rfl)
  | cons x13a x13t=>
   dsimp only at h
   obtain⟨hy1,h⟩:=gd h
   obtain⟨y2_,hy2,h⟩:=oB h
   have k0:=fun {A L l} (k:PL A L l)=>zz 5 (xk1 (x0).num (x0).off (x0).cap hy1) <|
    zz 6 (fk11 (x0).num (Nat.add (x0).off ((x6).toNat*8))) <|
    zz 7 (lk12 hy2 (qj_ hy1)) <|
    k
   by_cases hy3:x15<((((y2_.2.2.2.2.2.2.1)).l.length:Nat):Int)
   ·rw[if_pos hy3] at h
    obtain⟨hy4,h⟩:=gd h
    obtain⟨hy5,h⟩:=gd h
    obtain⟨y6_,hy6,h⟩:=oB h
    have k3:=fun {A L l} (k:PL A L l)=>zz 9 (xdT hy3) <|
     zz 16 (xk1 (x0).num (x0).off (x0).cap hy1) <|
     zz 17 (fk11 (x0).num (Nat.add (x0).off ((x6).toNat*8))) <|
     zz 18 (lk12 hy2 (qj_ hy1)) <|
     zz 20 (xk8 (Nat.add ((y2_.2.2.2.2.2.2.1)).num 64) ((y2_.2.2.2.2.2.2.1)).off ((y2_.2.2.2.2.2.2.1)).cap hy4) <|
     zz 21 (nk9 hy6 hy5) <|
     k
    by_cases hy7:y6_ > x1
    ·rw[if_pos hy7] at h
     obtain⟨hy8,h⟩:=gd h
     obtain rfl:=oI h
     exact runC2 hm (kW [0,1,2,9,10,11,12,13,14] [(0,0,true),(1,1,false),(2,4,true)] 3 0) (k0 <|
      k3 <|
      zz 27 (xdT hy7) <|
      yy 37 (.app ⟨none,iv (x13a::x13t),(iv ((x13a::x13t) ++ [(w64 (y6_+x4))])),(((x13a::x13t) ++ [(w64 (y6_+x4))])).length,false⟩) <|
      ww (p:=0<1) ((by decide)) <|
      ww (p:=rdT (layT (iv (x13a::x13t))) (Nat.mul ((x13a::x13t)).length 1) 0=some (iv (x13a::x13t))) (iv_rd _) <|
      ww (p:=fits (Nat.add ((x13a::x13t)).length 1) 8=true) (fits_ok hy8 (by have:=hy8; show (_:Nat)+_≤_; omega)) <|
      ww (p:=qm_ [(i6 (w64 (y6_+x4)))]=true) (rfl) <|
      ww (p:=qm_ (iv (x13a::x13t))=true) (qpf_ _) <|
      ww (p:=iv (x13a::x13t) ++ [(i6 (w64 (y6_+x4)))]=(iv ((x13a::x13t) ++ [(w64 (y6_+x4))]))) (by simp[iv]) <|
      ww (p:=Nat.add ((x13a::x13t)).length 1=(((x13a::x13t) ++ [(w64 (y6_+x4))])).length) (by simp) <|
      ww (qb_ rwf_iiiiiiLu (x5a::x5t) 46) <|
      ww (qco_ ((x13a::x13t) ++ [(w64 (y6_+x4))]) 3) <|
      ee) (by kernel_rfl)
    ·rw[if_neg hy7] at h
     obtain⟨hy8,h⟩:=gd h
     obtain rfl:=oI h
     exact runC2 hm (kW [0,1,2,9,10,11,12,13,14] [(0,0,true),(1,1,false),(2,4,true)] 3 0) (k0 <|
      k3 <|
      zz 27 (xdF hy7) <|
      yy 33 (.app ⟨none,iv (x13a::x13t),(iv ((x13a::x13t) ++ [y6_])),(((x13a::x13t) ++ [y6_])).length,false⟩) <|
      ww (p:=0<1) ((by decide)) <|
      ww (p:=rdT (layT (iv (x13a::x13t))) (Nat.mul ((x13a::x13t)).length 1) 0=some (iv (x13a::x13t))) (iv_rd _) <|
      ww (p:=fits (Nat.add ((x13a::x13t)).length 1) 8=true) (fits_ok hy8 (by have:=hy8; show (_:Nat)+_≤_; omega)) <|
      ww (p:=qm_ [(i6 y6_)]=true) (rfl) <|
      ww (p:=qm_ (iv (x13a::x13t))=true) (qpf_ _) <|
      ww (p:=iv (x13a::x13t) ++ [(i6 y6_)]=(iv ((x13a::x13t) ++ [y6_]))) (by simp[iv]) <|
      ww (p:=Nat.add ((x13a::x13t)).length 1=(((x13a::x13t) ++ [y6_])).length) (by simp) <|
      ww (qb_ rwf_iiiiiiLu (x5a::x5t) 46) <|
      ww (qco_ ((x13a::x13t) ++ [y6_]) 3) <|
      ee) (by kernel_rfl)
   ·rw[if_neg hy3] at h
    obtain⟨hy4,h⟩:=gdD h
    obtain rfl:=oI h
    exact runC2 hm ⟨[0,1,2,9,10,11,12,13],[(0,0,true),(1,1,false)],2,0,[(2,Nat.add (2*cod (x13a::x13t)+1) 64)],true,[],[],[]⟩ (k0 <|
     zz 9 (xdF hy3) <|
     ww (qb_ rwf_iiiiiiLu (x5a::x5t) 46) <|
     ww (qon_ ql_ q2_ (x13a::x13t)) <|
     ww (qb_ rwf_iiiiiiLu (x5a::x5t) 46) <|
     ee) (by kernel_rfl)
theorem qea_ (n:Nat){rnd:Option Nat}(x0:W8)(x1:Int)(x2:W8)(x3 x4 x6 x7 x8 x9 x10 x11 x12 x14:Int)(st:List R8×List Int×Int)(r:List R8×NL)(h:qfy_ n x0 x1 x2 x3 x4 x6 x7 x8 x9 x10 x11 x12 x14 st=some r):qrs_ rnd x0 x1 x2 x3 x4 x6 x7 x8 x9 x10 x11 x12 x14 st r:=
 CG.iter (b:=qp_ P 37 [false,false,true,false,true,true,false,false,true,false,false,true,false,true,true,true,true,true,true,true,true,true]) (by kernel_rfl) (body:=qcf_ n x0 x1 x2 x3 x4 x6 x7 x8 x9 x10 x11 x12 x14) (S:=qfx_ x0 x1 x2 x3 x4 x6 x7 x8 x9 x10 x11 x12 x14) (X:=q0_ x0 x1 x2 x3 x4 x6 x7 x8 x9 x10 x11 x12 x14)
  (fun s s' h=>qkw_ n x0 x1 x2 x3 x4 x6 x7 x8 x9 x10 x11 x12 x14 s (.inl s') h)
  (fun s r h=>qkw_ n x0 x1 x2 x3 x4 x6 x7 x8 x9 x10 x11 x12 x14 s (.inr r) h)
  (fun r=>by intro hx; cases hx) h
def qfz_ (x0:W8)(x1:Int)(x2:W8)(x3 x4:Int)(st:List R8×Int):XSt:=match st with
 | (x5,x6)=>(sT 151 [(0,(wlV x0)),(1,(i6 x1)),(2,(wlV x2)),(9,(i6 x3)),(10,(i6 x4)),(11,(slR x5 0 8)),(12,(i6 x6))],[],⟨sB [(0,(nblkR rw_iiiiiiLu x5 46))],1,0⟩)
def qcg_ (x0:W8)(x1:Int)(x2:W8)(x3 x4:Int)(r:List R8):Ex×XSt:=match r with
 | z0=>(.exit 0,(sT 151 [(0,(wlV x0)),(1,(i6 x1)),(2,(wlV x2)),(9,(i6 x3)),(10,(i6 x4)),(11,(slR z0 0 8))],[],⟨sB [(0,(nblkR rw_iiiiiiLu z0 46))],1,0⟩))
abbrev qrt_ (rnd:Option Nat)(x0:W8)(x1:Int)(x2:W8)(x3 x4:Int)(st:List R8×Int)(c:Ex×XSt):Prop:=CG P rnd (fnN P 37) 0 (qp_ P 37 [false,false,true,false,true,true,true,true,true,true,true,true,true]) (qfz_ x0 x1 x2 x3 x4 st) c
abbrev qru_ (rd:Option Nat)(x0:W8)(x1:Int)(x2:W8)(x3 x4:Int)(st:List R8×Int)(r:List R8):Prop:=CG P rd (fnN P 37) 0 (qp_ P 37 [false,true,false,true,true,true,true,true,true,true,true,true]) (qfz_ x0 x1 x2 x3 x4 st) (qcg_ x0 x1 x2 x3 x4 r)
def qch_ (n:Nat)(x0:W8)(x1:Int)(x2:W8)(x3 x4:Int)(st:List R8×Int):Option ((List R8×Int) ⊕ (List R8)):=match st with
 | (x5,x6)=>
  match x5 with
  | []=>
   if x6<x1 then
    if 0≤x6∧x6<(((x0).l.length:Nat):Int) then
     ((some (((x0).l).getD (x6).toNat (0,0,0,0,0,0,nl0,0)))).bind fun y3_=>
     (qfy_ n x0 x1 x2 x3 x4 x6 (y3_.1) (y3_.2.1) (y3_.2.2.1) (y3_.2.2.2.1) (y3_.2.2.2.2.1) (y3_.2.2.2.2.2.1) (y3_.2.2.2.2.2.2.2) (([]:List R8),([]:List Int),0)).bind fun t=>match t with
     | (y4_0,y4_1)=>
      match y4_0 with
      | []=>
       some (.inl ([((y3_.1),(y3_.2.1),(y3_.2.2.1),(y3_.2.2.2.1),(y3_.2.2.2.2.1),(y3_.2.2.2.2.2.1),y4_1,(y3_.2.2.2.2.2.2.2))],(w64 (x6+1))))
      | y4_0a::y4_0t=>
       if (((y4_0a::y4_0t)).length+1)*80≤140737488355328 then
        some (.inl (((y4_0a::y4_0t) ++ [((y3_.1),(y3_.2.1),(y3_.2.2.1),(y3_.2.2.2.1),(y3_.2.2.2.2.1),(y3_.2.2.2.2.2.1),y4_1,(y3_.2.2.2.2.2.2.2))]),(w64 (x6+1))))
       else none
    else none
   else
    some (.inr ([]:List R8))
  | x5a::x5t=>
   if x6<x1 then
    if 0≤x6∧x6<(((x0).l.length:Nat):Int) then
     ((some (((x0).l).getD (x6).toNat (0,0,0,0,0,0,nl0,0)))).bind fun y3_=>
     (qfy_ n x0 x1 x2 x3 x4 x6 (y3_.1) (y3_.2.1) (y3_.2.2.1) (y3_.2.2.2.1) (y3_.2.2.2.2.1) (y3_.2.2.2.2.2.1) (y3_.2.2.2.2.2.2.2) ((x5a::x5t),([]:List Int),0)).bind fun t=>match t with
     | (y4_0,y4_1)=>
      match y4_0 with
      | []=>
       some (.inl ([((y3_.1),(y3_.2.1),(y3_.2.2.1),(y3_.2.2.2.1),(y3_.2.2.2.2.1),(y3_.2.2.2.2.2.1),y4_1,(y3_.2.2.2.2.2.2.2))],(w64 (x6+1))))
      | y4_0a::y4_0t=>
       if (((y4_0a::y4_0t)).length+1)*80≤140737488355328 then
        some (.inl (((y4_0a::y4_0t) ++ [((y3_.1),(y3_.2.1),(y3_.2.2.1),(y3_.2.2.2.1),(y3_.2.2.2.2.1),(y3_.2.2.2.2.2.1),y4_1,(y3_.2.2.2.2.2.2.2))]),(w64 (x6+1))))
       else none
    else none
   else
    some (.inr (x5a::x5t))
def qhh_ (n:Nat)(x0:W8)(x1:Int)(x2:W8)(x3 x4:Int)(st:List R8×Int):Option (List R8):=iterM (qch_ n x0 x1 x2 x3 x4) n st
theorem qkx_ (n:Nat){rnd:Option Nat}(x0:W8)(x1:Int)(x2:W8)(x3 x4:Int)(st:List R8×Int)(o:(List R8×Int) ⊕ (List R8))(h:qch_ n x0 x1 x2 x3 x4 st=some o):qrt_ rnd x0 x1 x2 x3 x4 st (Sum.elim (fun s=>(.normal,qfz_ x0 x1 x2 x3 x4 s)) (fun r=>qcg_ x0 x1 x2 x3 x4 r) o):=by
 obtain⟨x5,x6⟩:=st
 unfold qch_ at h
 dsimp only at h
 cases x5 with
 | nil=>
  dsimp only at h
  by_cases hy1:x6<x1
  ·rw[if_pos hy1] at h
   obtain⟨hy2,h⟩:=gd h
   obtain⟨y3_,hy3,h⟩:=oB h
   obtain⟨⟨y4_0,y4_1⟩,hy4,h⟩:=oB h
   dsimp only at h
   have k0:=fun {A L l} (k:PL A L l)=>zz 4 (xdT hy1) <|
    zz 11 (xk1 (x0).num (x0).off (x0).cap hy2) <|
    zz 12 (lk2 hy3 (qj_ hy2)) <|
    k
   cases y4_0 with
   | nil=>
    dsimp only at h
    obtain rfl:=oI h
    exact runC2 hm (kW [0,1,2,9,10,11,12] [(0,3,false)] 1 0) (k0 <|
     ww (qea_ n (rnd:=rnd) x0 x1 x2 x3 x4 x6 (y3_.1) (y3_.2.1) (y3_.2.2.1) (y3_.2.2.2.1) (y3_.2.2.2.2.1) (y3_.2.2.2.2.2.1) (y3_.2.2.2.2.2.2.2) (([]:List R8),([]:List Int),0) (([]:List R8),y4_1) hy4) <|
     ll 22 ⟨(kW [0,1,2,9,10,11,12,13,14] [(1,1,false)] 3 0),(q0_ x0 x1 x2 x3 x4 x6 (y3_.1) (y3_.2.1) (y3_.2.2.1) (y3_.2.2.2.1) (y3_.2.2.2.2.1) (y3_.2.2.2.2.2.1) (y3_.2.2.2.2.2.2.2) (([]:List R8),y4_1)).1,(q0_ x0 x1 x2 x3 x4 x6 (y3_.1) (y3_.2.1) (y3_.2.2.1) (y3_.2.2.2.1) (y3_.2.2.2.2.1) (y3_.2.2.2.2.2.1) (y3_.2.2.2.2.2.2.2) (([]:List R8),y4_1)).2⟩ <|
     ee) (by kernel_rfl)
   | cons y4_0a y4_0t=>
    dsimp only at h
    obtain⟨hy5,h⟩:=gd h
    obtain rfl:=oI h
    exact runC2 hm (kW [0,1,2,9,10,11,12] [(0,3,true)] 1 0) (k0 <|
     ww (qea_ n (rnd:=rnd) x0 x1 x2 x3 x4 x6 (y3_.1) (y3_.2.1) (y3_.2.2.1) (y3_.2.2.2.1) (y3_.2.2.2.2.1) (y3_.2.2.2.2.2.1) (y3_.2.2.2.2.2.2.2) (([]:List R8),([]:List Int),0) ((y4_0a::y4_0t),y4_1) hy4) <|
     ll 22 ⟨(kW [0,1,2,9,10,11,12,13,14] [(1,1,false)] 3 0),(q0_ x0 x1 x2 x3 x4 x6 (y3_.1) (y3_.2.1) (y3_.2.2.1) (y3_.2.2.2.1) (y3_.2.2.2.2.1) (y3_.2.2.2.2.2.1) (y3_.2.2.2.2.2.2.2) ((y4_0a::y4_0t),y4_1)).1,(q0_ x0 x1 x2 x3 x4 x6 (y3_.1) (y3_.2.1) (y3_.2.2.1) (y3_.2.2.2.1) (y3_.2.2.2.2.1) (y3_.2.2.2.2.2.1) (y3_.2.2.2.2.2.2.2) ((y4_0a::y4_0t),y4_1)).2⟩ <|
     yy 26 (.app ⟨none,rows rw_iiiiiiLu (y4_0a::y4_0t),(rows rw_iiiiiiLu ((y4_0a::y4_0t) ++ [((y3_.1),(y3_.2.1),(y3_.2.2.1),(y3_.2.2.2.1),(y3_.2.2.2.2.1),(y3_.2.2.2.2.2.1),y4_1,(y3_.2.2.2.2.2.2.2))])),(((y4_0a::y4_0t) ++ [((y3_.1),(y3_.2.1),(y3_.2.2.1),(y3_.2.2.2.1),(y3_.2.2.2.2.1),(y3_.2.2.2.2.2.1),y4_1,(y3_.2.2.2.2.2.2.2))])).length,false⟩) <|
     ww (p:=0<1) ((by decide)) <|
     ww (p:=rdT (layT (rows rw_iiiiiiLu (y4_0a::y4_0t))) (Nat.mul ((y4_0a::y4_0t)).length 8) 0=some (rows rw_iiiiiiLu (y4_0a::y4_0t))) (qkk_ rwf_iiiiiiLu _ _ rfl) <|
     ww (p:=fits (Nat.add ((y4_0a::y4_0t)).length 1) 80=true) (fits_ok hy5 (by have:=hy5; show (_:Nat)+_≤_; omega)) <|
     ww (p:=qm_ [(i6 (y3_.1)),(i6 (y3_.2.1)),(i6 (y3_.2.2.1)),(i6 (y3_.2.2.2.1)),(i6 (y3_.2.2.2.2.1)),(i6 (y3_.2.2.2.2.2.1)),(nlV y4_1),(Value.int .u64 (y3_.2.2.2.2.2.2.2))]=true) (rfl) <|
     ww (p:=qm_ (rows rw_iiiiiiLu (y4_0a::y4_0t))=true) (qc6_ rwf_iiiiiiLu _) <|
     ww (p:=rows rw_iiiiiiLu (y4_0a::y4_0t) ++ [(i6 (y3_.1)),(i6 (y3_.2.1)),(i6 (y3_.2.2.1)),(i6 (y3_.2.2.2.1)),(i6 (y3_.2.2.2.2.1)),(i6 (y3_.2.2.2.2.2.1)),(nlV y4_1),(Value.int .u64 (y3_.2.2.2.2.2.2.2))]=(rows rw_iiiiiiLu ((y4_0a::y4_0t) ++ [((y3_.1),(y3_.2.1),(y3_.2.2.1),(y3_.2.2.2.1),(y3_.2.2.2.2.1),(y3_.2.2.2.2.2.1),y4_1,(y3_.2.2.2.2.2.2.2))]))) (qij_ rw_iiiiiiLu (y4_0a::y4_0t) [((y3_.1),(y3_.2.1),(y3_.2.2.1),(y3_.2.2.2.1),(y3_.2.2.2.2.1),(y3_.2.2.2.2.2.1),y4_1,(y3_.2.2.2.2.2.2.2))]) <|
     ww (p:=Nat.add ((y4_0a::y4_0t)).length 1=(((y4_0a::y4_0t) ++ [((y3_.1),(y3_.2.1),(y3_.2.2.1),(y3_.2.2.2.1),(y3_.2.2.2.2.1),(y3_.2.2.2.2.2.1),y4_1,(y3_.2.2.2.2.2.2.2))])).length) (by simp) <|
     ww (qb_ rwf_iiiiiiLu ((y4_0a::y4_0t) ++ [((y3_.1),(y3_.2.1),(y3_.2.2.1),(y3_.2.2.2.1),(y3_.2.2.2.2.1),(y3_.2.2.2.2.2.1),y4_1,(y3_.2.2.2.2.2.2.2))]) 46) <|
     ee) (by kernel_rfl)
  ·rw[if_neg hy1] at h
   obtain rfl:=oI h
   exact runC2 hm (kW [0,1,2,9,10,11] [] 1 0) (zz 4 (xdF hy1) <|
    ee) (by kernel_rfl)
 | cons x5a x5t=>
  dsimp only at h
  by_cases hy1:x6<x1
  ·rw[if_pos hy1] at h
   obtain⟨hy2,h⟩:=gd h
   obtain⟨y3_,hy3,h⟩:=oB h
   obtain⟨⟨y4_0,y4_1⟩,hy4,h⟩:=oB h
   dsimp only at h
   have k0:=fun {A L l} (k:PL A L l)=>zz 4 (xdT hy1) <|
    zz 11 (xk1 (x0).num (x0).off (x0).cap hy2) <|
    zz 12 (lk2 hy3 (qj_ hy2)) <|
    k
   cases y4_0 with
   | nil=>
    dsimp only at h
    obtain rfl:=oI h
    exact runC2 hm (kW [0,1,2,9,10,11,12] [(0,3,false)] 1 0) (k0 <|
     ww (qea_ n (rnd:=rnd) x0 x1 x2 x3 x4 x6 (y3_.1) (y3_.2.1) (y3_.2.2.1) (y3_.2.2.2.1) (y3_.2.2.2.2.1) (y3_.2.2.2.2.2.1) (y3_.2.2.2.2.2.2.2) ((x5a::x5t),([]:List Int),0) (([]:List R8),y4_1) hy4) <|
     ww (qb_ rwf_iiiiiiLu (x5a::x5t) 46) <|
     ll 22 ⟨(kW [0,1,2,9,10,11,12,13,14] [(0,0,true),(1,1,false)] 3 0),(q0_ x0 x1 x2 x3 x4 x6 (y3_.1) (y3_.2.1) (y3_.2.2.1) (y3_.2.2.2.1) (y3_.2.2.2.2.1) (y3_.2.2.2.2.2.1) (y3_.2.2.2.2.2.2.2) (([]:List R8),y4_1)).1,(q0_ x0 x1 x2 x3 x4 x6 (y3_.1) (y3_.2.1) (y3_.2.2.1) (y3_.2.2.2.1) (y3_.2.2.2.2.1) (y3_.2.2.2.2.2.1) (y3_.2.2.2.2.2.2.2) (([]:List R8),y4_1)).2⟩ <|
     ee) (by kernel_rfl)
   | cons y4_0a y4_0t=>
    dsimp only at h
    obtain⟨hy5,h⟩:=gd h
    obtain rfl:=oI h
    exact runC2 hm (kW [0,1,2,9,10,11,12] [(0,3,true)] 1 0) (k0 <|
     ww (qea_ n (rnd:=rnd) x0 x1 x2 x3 x4 x6 (y3_.1) (y3_.2.1) (y3_.2.2.1) (y3_.2.2.2.1) (y3_.2.2.2.2.1) (y3_.2.2.2.2.2.1) (y3_.2.2.2.2.2.2.2) ((x5a::x5t),([]:List Int),0) ((y4_0a::y4_0t),y4_1) hy4) <|
     ww (qb_ rwf_iiiiiiLu (x5a::x5t) 46) <|
     ll 22 ⟨(kW [0,1,2,9,10,11,12,13,14] [(0,0,true),(1,1,false)] 3 0),(q0_ x0 x1 x2 x3 x4 x6 (y3_.1) (y3_.2.1) (y3_.2.2.1) (y3_.2.2.2.1) (y3_.2.2.2.2.1) (y3_.2.2.2.2.2.1) (y3_.2.2.2.2.2.2.2) ((y4_0a::y4_0t),y4_1)).1,(q0_ x0 x1 x2 x3 x4 x6 (y3_.1) (y3_.2.1) (y3_.2.2.1) (y3_.2.2.2.1) (y3_.2.2.2.2.1) (y3_.2.2.2.2.2.1) (y3_.2.2.2.2.2.2.2) ((y4_0a::y4_0t),y4_1)).2⟩ <|
     yy 26 (.app ⟨none,rows rw_iiiiiiLu (y4_0a::y4_0t),(rows rw_iiiiiiLu ((y4_0a::y4_0t) ++ [((y3_.1),(y3_.2.1),(y3_.2.2.1),(y3_.2.2.2.1),(y3_.2.2.2.2.1),(y3_.2.2.2.2.2.1),y4_1,(y3_.2.2.2.2.2.2.2))])),(((y4_0a::y4_0t) ++ [((y3_.1),(y3_.2.1),(y3_.2.2.1),(y3_.2.2.2.1),(y3_.2.2.2.2.1),(y3_.2.2.2.2.2.1),y4_1,(y3_.2.2.2.2.2.2.2))])).length,false⟩) <|
     ww (p:=0<1) ((by decide)) <|
     ww (p:=rdT (layT (rows rw_iiiiiiLu (y4_0a::y4_0t))) (Nat.mul ((y4_0a::y4_0t)).length 8) 0=some (rows rw_iiiiiiLu (y4_0a::y4_0t))) (qkk_ rwf_iiiiiiLu _ _ rfl) <|
     ww (p:=fits (Nat.add ((y4_0a::y4_0t)).length 1) 80=true) (fits_ok hy5 (by have:=hy5; show (_:Nat)+_≤_; omega)) <|
     ww (p:=qm_ [(i6 (y3_.1)),(i6 (y3_.2.1)),(i6 (y3_.2.2.1)),(i6 (y3_.2.2.2.1)),(i6 (y3_.2.2.2.2.1)),(i6 (y3_.2.2.2.2.2.1)),(nlV y4_1),(Value.int .u64 (y3_.2.2.2.2.2.2.2))]=true) (rfl) <|
     ww (p:=qm_ (rows rw_iiiiiiLu (y4_0a::y4_0t))=true) (qc6_ rwf_iiiiiiLu _) <|
     ww (p:=rows rw_iiiiiiLu (y4_0a::y4_0t) ++ [(i6 (y3_.1)),(i6 (y3_.2.1)),(i6 (y3_.2.2.1)),(i6 (y3_.2.2.2.1)),(i6 (y3_.2.2.2.2.1)),(i6 (y3_.2.2.2.2.2.1)),(nlV y4_1),(Value.int .u64 (y3_.2.2.2.2.2.2.2))]=(rows rw_iiiiiiLu ((y4_0a::y4_0t) ++ [((y3_.1),(y3_.2.1),(y3_.2.2.1),(y3_.2.2.2.1),(y3_.2.2.2.2.1),(y3_.2.2.2.2.2.1),y4_1,(y3_.2.2.2.2.2.2.2))]))) (qij_ rw_iiiiiiLu (y4_0a::y4_0t) [((y3_.1),(y3_.2.1),(y3_.2.2.1),(y3_.2.2.2.1),(y3_.2.2.2.2.1),(y3_.2.2.2.2.2.1),y4_1,(y3_.2.2.2.2.2.2.2))]) <|
     ww (p:=Nat.add ((y4_0a::y4_0t)).length 1=(((y4_0a::y4_0t) ++ [((y3_.1),(y3_.2.1),(y3_.2.2.1),(y3_.2.2.2.1),(y3_.2.2.2.2.1),(y3_.2.2.2.2.2.1),y4_1,(y3_.2.2.2.2.2.2.2))])).length) (by simp) <|
     ww (qb_ rwf_iiiiiiLu ((y4_0a::y4_0t) ++ [((y3_.1),(y3_.2.1),(y3_.2.2.1),(y3_.2.2.2.1),(y3_.2.2.2.2.1),(y3_.2.2.2.2.2.1),y4_1,(y3_.2.2.2.2.2.2.2))]) 46) <|
     ee) (by kernel_rfl)
  ·rw[if_neg hy1] at h
   obtain rfl:=oI h
   exact runC2 hm (kW [0,1,2,9,10,11] [(0,0,true)] 1 0) (zz 4 (xdF hy1) <|
    ww (qb_ rwf_iiiiiiLu (x5a::x5t) 46) <|
    ee) (by kernel_rfl)
theorem qi0_ (n:Nat){rnd:Option Nat}(x0:W8)(x1:Int)(x2:W8)(x3 x4:Int)(st:List R8×Int)(r:List R8)(h:qhh_ n x0 x1 x2 x3 x4 st=some r):qru_ rnd x0 x1 x2 x3 x4 st r:=
 CG.iter (b:=qp_ P 37 [false,false,true,false,true,true,true,true,true,true,true,true,true]) (by kernel_rfl) (body:=qch_ n x0 x1 x2 x3 x4) (S:=qfz_ x0 x1 x2 x3 x4) (X:=qcg_ x0 x1 x2 x3 x4)
  (fun s s' h=>qkx_ n x0 x1 x2 x3 x4 s (.inl s') h)
  (fun s r h=>qkx_ n x0 x1 x2 x3 x4 s (.inr r) h)
  (fun r=>by intro hx; cases hx) h
def qci_ (n:Nat)(a0:W8)(a1:Int)(a2:W8):Option ((Int) ⊕ (List R8)):=
 (qe_ n a0).bind fun c1_=>
 if c1_=0 then
  (qe_ n a2).bind fun c3_=>
  if c3_=0 then
   if a1<0 then
    some (.inl 2)
   else
    if a1 ≥ (((a0).l.length:Nat):Int) then
     some (.inl 2)
    else
     if 0≤a1∧a1<(((a0).l.length:Nat):Int) then
      ((some (((a0).l).getD (a1).toNat (0,0,0,0,0,0,nl0,0)))).bind fun c8_=>
      if 0≤(0:Int)∧(0:Int)<(((a2).l.length:Nat):Int) then
       ((some (((a2).l).getD ((0:Int)).toNat (0,0,0,0,0,0,nl0,0)))).bind fun c10_=>
       if (c8_.1)=(c10_.1) then
        if (c8_.2.1)=(c10_.2.1) then
         if (c8_.2.2.1)=(c10_.2.2.1) then
          if (c8_.2.2.2.2.1)=(c10_.2.2.2.2.1) then
           (qd_ n a0 a1).bind fun c15_=>
           ((some (w64 ((((a2).l.length:Nat):Int)-(w64 (c15_-a1)))))).bind fun c16_=>
           ((some (w64 ((((a0).l.length:Nat):Int)+c16_)))).bind fun c17_=>
           if c17_ > 524288 then
            some (.inl 3)
           else
            (qhh_ n a0 a1 a2 c15_ c16_ (([]:List R8),0)).bind fun c19_=>
            match c19_ with
            | []=>
             match qf_ n a2 a1 with
             | none=>none
             | some (.inl _)=>
              if 0≤c15_ then
               if hc22:(c15_).toNat≤(a0).l.length∧(a0).l.length≤(a0).l.length then
                match qf_ n (wlSub rwf_iiiiiiLu a0 (c15_).toNat (a0).l.length hc22) c16_ with
                | none=>none
                | some (.inl _)=>
                 some (.inl 0)
                | some (.inr c23_)=>
                 if 0<(c23_).length then
                  if (c23_).length*80≤140737488355328 then
                   some (.inr c23_)
                  else none
                 else none
               else none
              else none
             | some (.inr c20_)=>
              if 0<(c20_).length then
               if (c20_).length*80≤140737488355328 then
                if 0≤c15_ then
                 if hc24:(c15_).toNat≤(a0).l.length∧(a0).l.length≤(a0).l.length then
                  match qf_ n (wlSub rwf_iiiiiiLu a0 (c15_).toNat (a0).l.length hc24) c16_ with
                  | none=>none
                  | some (.inl _)=>
                   some (.inr c20_)
                  | some (.inr c25_)=>
                   if 0<(c25_).length then
                    if ((c20_).length+(c25_).length)*80≤140737488355328 then
                     some (.inr (c20_++c25_))
                    else none
                   else none
                 else none
                else none
               else none
              else none
            | c19_a::c19_t=>
             match qf_ n a2 a1 with
             | none=>none
             | some (.inl _)=>
              if ((c19_a::c19_t)).length*80≤140737488355328 then
               if 0≤c15_ then
                if hc23:(c15_).toNat≤(a0).l.length∧(a0).l.length≤(a0).l.length then
                 match qf_ n (wlSub rwf_iiiiiiLu a0 (c15_).toNat (a0).l.length hc23) c16_ with
                 | none=>none
                 | some (.inl _)=>
                  some (.inr (c19_a::c19_t))
                 | some (.inr c24_)=>
                  if 0<(c24_).length then
                   if (((c19_a::c19_t)).length+(c24_).length)*80≤140737488355328 then
                    some (.inr ((c19_a::c19_t)++c24_))
                   else none
                  else none
                else none
               else none
              else none
             | some (.inr c20_)=>
              if 0<(c20_).length then
               if (((c19_a::c19_t)).length+(c20_).length)*80≤140737488355328 then
                if 0≤c15_ then
                 if hc24:(c15_).toNat≤(a0).l.length∧(a0).l.length≤(a0).l.length then
                  match qf_ n (wlSub rwf_iiiiiiLu a0 (c15_).toNat (a0).l.length hc24) c16_ with
                  | none=>none
                  | some (.inl _)=>
                   if (((c19_a::c19_t)++c20_)).length*80≤140737488355328 then
                    some (.inr ((c19_a::c19_t)++c20_))
                   else none
                  | some (.inr c25_)=>
                   if 0<(c25_).length then
                    if ((((c19_a::c19_t)++c20_)).length+(c25_).length)*80≤140737488355328 then
                     some (.inr (((c19_a::c19_t)++c20_)++c25_))
                    else none
                   else none
                 else none
                else none
               else none
              else none
          else
           some (.inl 2)
         else
          some (.inl 2)
        else
         some (.inl 2)
       else
        some (.inl 2)
      else none
     else none
  else
   some (.inl c3_)
 else
  some (.inl c1_)
theorem qfh_ (n:Nat)(a0:W8)(a1:Int)(a2:W8)(r:(Int) ⊕ (List R8))(h:qci_ n a0 a1 a2=some r):qts_ a0 a1 a2 r:=by
 unfold qci_ at h
 obtain⟨c1_,hc1,h⟩:=oB h
 have k0:=fun {A L l} (k:PL A L l)=>yy 5 (.call (q1_ a0 c1_ [] [])) <|
  ww (qw_ n a0 c1_ hc1) <|
  k
 by_cases hc2:c1_=0
 ·rw[if_pos hc2] at h
  obtain⟨c3_,hc3,h⟩:=oB h
  have k2:=fun {A L l} (k:PL A L l)=>zz 10 (xeT hc2) <|
   yy 13 (.call (q1_ a2 c3_ [] [])) <|
   ww (qw_ n a2 c3_ hc3) <|
   k
  by_cases hc4:c3_=0
  ·rw[if_pos hc4] at h
   have k5:=fun {A L l} (k:PL A L l)=>zz 18 (xnF hc4) <|
    k
   by_cases hc5:a1<0
   ·rw[if_pos hc5] at h
    obtain rfl:=oI h
    exact runF2 hm (kW [6,7] [] 0 0) (k0 <|
     k2 <|
     k5 <|
     zz 23 (xdT hc5) <|
     ee) (by kernel_rfl)
   ·rw[if_neg hc5] at h
    have k6:=fun {A L l} (k:PL A L l)=>zz 23 (xdF hc5) <|
     k
    by_cases hc6:a1 ≥ (((a0).l.length:Nat):Int)
    ·rw[if_pos hc6] at h
     obtain rfl:=oI h
     exact runF2 hm (kW [6,7] [] 0 0) (k0 <|
      k2 <|
      k5 <|
      k6 <|
      zz 28 (xdT hc6) <|
      ee) (by kernel_rfl)
    ·rw[if_neg hc6] at h
     obtain⟨hc7,h⟩:=gd h
     obtain⟨c8_,hc8,h⟩:=oB h
     obtain⟨hc9,h⟩:=gd h
     obtain⟨c10_,hc10,h⟩:=oB h
     have k7:=fun {A L l} (k:PL A L l)=>zz 28 (xdF hc6) <|
      zz 33 (xk1 (a0).num (a0).off (a0).cap hc7) <|
      zz 34 (fk23 (a0).num (Nat.add (a0).off ((a1).toNat*8))) <|
      zz 35 (lk24 hc8 (qj_ hc7)) <|
      zz 37 (xk1 (a2).num (a2).off (a2).cap hc9) <|
      zz 38 (fk23 (a2).num (Nat.add (a2).off (((0:Int)).toNat*8))) <|
      zz 39 (lk24 hc10 (qj_ hc9)) <|
      k
     by_cases hc11:(c8_.1)=(c10_.1)
     ·rw[if_pos hc11] at h
      have k14:=fun {A L l} (k:PL A L l)=>zz 40 (xnF hc11) <|
       zz 45 (xk1 (a0).num (a0).off (a0).cap hc7) <|
       zz 46 (fk21 (a0).num (Nat.add (a0).off ((a1).toNat*8))) <|
       zz 47 (lk22 hc8 (qj_ hc7)) <|
       zz 49 (xk1 (a2).num (a2).off (a2).cap hc9) <|
       zz 50 (fk21 (a2).num (Nat.add (a2).off (((0:Int)).toNat*8))) <|
       zz 51 (lk22 hc10 (qj_ hc9)) <|
       k
      by_cases hc12:(c8_.2.1)=(c10_.2.1)
      ·rw[if_pos hc12] at h
       have k21:=fun {A L l} (k:PL A L l)=>zz 52 (xnF hc12) <|
        zz 57 (xk1 (a0).num (a0).off (a0).cap hc7) <|
        zz 58 (fk16 (a0).num (Nat.add (a0).off ((a1).toNat*8))) <|
        zz 59 (lk17 hc8 (qj_ hc7)) <|
        zz 61 (xk1 (a2).num (a2).off (a2).cap hc9) <|
        zz 62 (fk16 (a2).num (Nat.add (a2).off (((0:Int)).toNat*8))) <|
        zz 63 (lk17 hc10 (qj_ hc9)) <|
        k
       by_cases hc13:(c8_.2.2.1)=(c10_.2.2.1)
       ·rw[if_pos hc13] at h
        have k28:=fun {A L l} (k:PL A L l)=>zz 64 (xnF hc13) <|
         zz 69 (xk1 (a0).num (a0).off (a0).cap hc7) <|
         zz 70 (fk18 (a0).num (Nat.add (a0).off ((a1).toNat*8))) <|
         zz 71 (lk19 hc8 (qj_ hc7)) <|
         zz 73 (xk1 (a2).num (a2).off (a2).cap hc9) <|
         zz 74 (fk18 (a2).num (Nat.add (a2).off (((0:Int)).toNat*8))) <|
         zz 75 (lk19 hc10 (qj_ hc9)) <|
         k
        by_cases hc14:(c8_.2.2.2.2.1)=(c10_.2.2.2.2.1)
        ·rw[if_pos hc14] at h
         obtain⟨c15_,hc15,h⟩:=oB h
         obtain⟨c16_,hc16,h⟩:=oB h
         obtain⟨c17_,hc17,h⟩:=oB h
         have k35:=fun {A L l} (k:PL A L l)=>zz 76 (xnF hc14) <|
          yy 82 (.call (qe2_ a0 a1 c15_ [] [])) <|
          ww (qdr_ n a0 a1 c15_ hc15) <|
          zz 90 (xnm hc16) <|
          zz 97 (xnm hc17) <|
          k
         by_cases hc18:c17_ > 524288
         ·rw[if_pos hc18] at h
          obtain rfl:=oI h
          exact runF2 hm (kW [6,7] [] 0 0) (k0 <|
           k2 <|
           k5 <|
           k6 <|
           k7 <|
           k14 <|
           k21 <|
           k28 <|
           k35 <|
           zz 98 (xdT hc18) <|
           ee) (by kernel_rfl)
         ·rw[if_neg hc18] at h
          obtain⟨c19_,hc19,h⟩:=oB h
          have k40:=fun {A L l} (k:PL A L l)=>zz 98 (xdF hc18) <|
           k
          cases c19_ with
          | nil=>
           dsimp only at h
           have k41:=fun {A L l} (k:PL A L l)=>ww (qi0_ n (rnd:=none) a0 a1 a2 c15_ c16_ (([]:List R8),0) ([]:List R8) hc19) <|
            ll 106 ⟨(kW [0,1,2,9,10,11,12] [] 1 0),(qcg_ a0 a1 a2 c15_ c16_ ([]:List R8)).1,(qcg_ a0 a1 a2 c15_ c16_ ([]:List R8)).2⟩ <|
            k
           rcases hc20:qf_ n a2 a1 with _ | (⟨⟩ | c20_)
           ·rw[hc20] at h; cases h
           ·rw[hc20] at h
            dsimp only at h
            obtain⟨hc21,h⟩:=gd h
            obtain⟨hc22,h⟩:=gdD h
            have k43:=fun {A L l} (k:PL A L l)=>yy 111 (.call (qi_ a2 a1 (.inl ()) [] [])) <|
             ww (qg_ n a2 a1 (.inl ()) hc20) <|
             yy 118 (.pur (wlV (wlSub rwf_iiiiiiLu a0 (c15_).toNat (a0).l.length hc22))) <|
             ww (p:=qjt_ P 22 (wlV a0) (some (i6 c15_)) none none Ax.h0=some ((wlV (wlSub rwf_iiiiiiLu a0 (c15_).toNat (a0).l.length hc22)),Ax.h0)) (slWL (e:=46) rwf_iiiiiiLu a0 (by kernel_rfl) (by kernel_rfl) (qsu_ hc21) rfl hc22) <|
             k
            rcases hc23:qf_ n (wlSub rwf_iiiiiiLu a0 (c15_).toNat (a0).l.length hc22) c16_ with _ | (⟨⟩ | c23_)
            ·rw[hc23] at h; cases h
            ·rw[hc23] at h
             dsimp only at h
             obtain rfl:=oI h
             exact runF2 hm (kW [6,7] [] 0 0) (k0 <|
              k2 <|
              k5 <|
              k6 <|
              k7 <|
              k14 <|
              k21 <|
              k28 <|
              k35 <|
              k40 <|
              k41 <|
              k43 <|
              yy 120 (.call (qi_ (wlSub rwf_iiiiiiLu a0 (c15_).toNat (a0).l.length hc22) c16_ (.inl ()) [] [])) <|
              ww (qg_ n (wlSub rwf_iiiiiiLu a0 (c15_).toNat (a0).l.length hc22) c16_ (.inl ()) hc23) <|
              ee) (by kernel_rfl)
            ·rw[hc23] at h
             dsimp only at h
             replace h:=gd h
             obtain⟨hc24,h⟩:=h
             replace h:=gd h
             obtain⟨hc25,h⟩:=h
             obtain rfl:=oI h
             exact runF2 hm (kW [6,7] [(0,2,true)] 1 0) (k0 <|
              k2 <|
              k5 <|
              k6 <|
              k7 <|
              k14 <|
              k21 <|
              k28 <|
              k35 <|
              k40 <|
              k41 <|
              k43 <|
              yy 120 (.call (qi_ (wlSub rwf_iiiiiiLu a0 (c15_).toNat (a0).l.length hc22) c16_ (.inr c23_) [] [(1,0,true)])) <|
              ww (qg_ n (wlSub rwf_iiiiiiLu a0 (c15_).toNat (a0).l.length hc22) c16_ (.inr c23_) hc23) <|
              ww (qb_ rwf_iiiiiiLu c23_ 46) <|
              ww (p:=(c23_).length=(c23_).length) (rfl) <|
              ww (p:=rdT (layT (rows rw_iiiiiiLu c23_)) (Nat.mul (c23_).length 8) 0=some (rows rw_iiiiiiLu c23_)) (qkk_ rwf_iiiiiiLu _ _ rfl) <|
              yy 121 (.app ⟨some ((c23_).length,(rows rw_iiiiiiLu c23_)),[],(rows rw_iiiiiiLu c23_),(c23_).length,false⟩) <|
              ww (p:=0<(c23_).length) (hc24) <|
              ww (p:=fits (c23_).length 80=true) (fits_ok hc25 (by omega)) <|
              ww (p:=(rows rw_iiiiiiLu c23_)=(rows rw_iiiiiiLu c23_)) (rfl) <|
              ww (p:=(c23_).length=(c23_).length) (rfl) <|
              ww (qb_ rwf_iiiiiiLu c23_ 46) <|
              ee) (by kernel_rfl)
           ·rw[hc20] at h
            dsimp only at h
            obtain⟨hc21,h⟩:=gd h
            obtain⟨hc22,h⟩:=gd h
            obtain⟨hc23,h⟩:=gd h
            obtain⟨hc24,h⟩:=gdD h
            have k43:=fun {A L l} (k:PL A L l)=>yy 111 (.call (qi_ a2 a1 (.inr c20_) [] [(1,0,true)])) <|
             ww (qg_ n a2 a1 (.inr c20_) hc20) <|
             ww (qb_ rwf_iiiiiiLu c20_ 46) <|
             ww (p:=(c20_).length=(c20_).length) (rfl) <|
             ww (p:=rdT (layT (rows rw_iiiiiiLu c20_)) (Nat.mul (c20_).length 8) 0=some (rows rw_iiiiiiLu c20_)) (qkk_ rwf_iiiiiiLu _ _ rfl) <|
             yy 112 (.app ⟨some ((c20_).length,(rows rw_iiiiiiLu c20_)),[],(rows rw_iiiiiiLu c20_),(c20_).length,false⟩) <|
             ww (p:=0<(c20_).length) (hc21) <|
             ww (p:=fits (c20_).length 80=true) (fits_ok hc22 (by omega)) <|
             ww (p:=(rows rw_iiiiiiLu c20_)=(rows rw_iiiiiiLu c20_)) (rfl) <|
             ww (p:=(c20_).length=(c20_).length) (rfl) <|
             yy 118 (.pur (wlV (wlSub rwf_iiiiiiLu a0 (c15_).toNat (a0).l.length hc24))) <|
             ww (p:=qjt_ P 22 (wlV a0) (some (i6 c15_)) none none Ax.h0=some ((wlV (wlSub rwf_iiiiiiLu a0 (c15_).toNat (a0).l.length hc24)),Ax.h0)) (slWL (e:=46) rwf_iiiiiiLu a0 (by kernel_rfl) (by kernel_rfl) (qsu_ hc23) rfl hc24) <|
             k
            rcases hc25:qf_ n (wlSub rwf_iiiiiiLu a0 (c15_).toNat (a0).l.length hc24) c16_ with _ | (⟨⟩ | c25_)
            ·rw[hc25] at h; cases h
            ·rw[hc25] at h
             dsimp only at h
             obtain rfl:=oI h
             exact runF2 hm (kW [6,7] [(0,2,true)] 1 0) (k0 <|
              k2 <|
              k5 <|
              k6 <|
              k7 <|
              k14 <|
              k21 <|
              k28 <|
              k35 <|
              k40 <|
              k41 <|
              k43 <|
              yy 120 (.call (qi_ (wlSub rwf_iiiiiiLu a0 (c15_).toNat (a0).l.length hc24) c16_ (.inl ()) [] [])) <|
              ww (qg_ n (wlSub rwf_iiiiiiLu a0 (c15_).toNat (a0).l.length hc24) c16_ (.inl ()) hc25) <|
              yy 121 (.app0) <|
              ww (p:=srcB P Ax.h0 8 (Value.slice none 0 0)=some (0,[])) (rfl) <|
              ww (p:=∀ H:AH,qr6_ H 8 46 80 (0,[]) (sN 2 0 (c20_).length (Nat.add big 8))=some ((sN 2 0 (c20_).length (Nat.add big 8)),H)) (fun H=>top0 (by decide) (by have:=hc22; show (_:Nat)≤1180591620717411303424+8; omega) H) <|
              ww (qb_ rwf_iiiiiiLu c20_ 46) <|
              ee) (by kernel_rfl)
            ·rw[hc25] at h
             dsimp only at h
             replace h:=gd h
             obtain⟨hc26,h⟩:=h
             replace h:=gd h
             obtain⟨hc27,h⟩:=h
             obtain rfl:=oI h
             exact runF2 hm (kW [6,7] [(0,4,true)] 1 0) (k0 <|
              k2 <|
              k5 <|
              k6 <|
              k7 <|
              k14 <|
              k21 <|
              k28 <|
              k35 <|
              k40 <|
              k41 <|
              k43 <|
              yy 120 (.call (qi_ (wlSub rwf_iiiiiiLu a0 (c15_).toNat (a0).l.length hc24) c16_ (.inr c25_) [] [(3,0,true)])) <|
              ww (qg_ n (wlSub rwf_iiiiiiLu a0 (c15_).toNat (a0).l.length hc24) c16_ (.inr c25_) hc25) <|
              ww (qb_ rwf_iiiiiiLu c25_ 46) <|
              ww (p:=(c25_).length=(c25_).length) (rfl) <|
              ww (p:=rdT (layT (rows rw_iiiiiiLu c25_)) (Nat.mul (c25_).length 8) 0=some (rows rw_iiiiiiLu c25_)) (qkk_ rwf_iiiiiiLu _ _ rfl) <|
              yy 121 (.app ⟨some ((c25_).length,(rows rw_iiiiiiLu c25_)),rows rw_iiiiiiLu c20_,(rows rw_iiiiiiLu (c20_++c25_)),((c20_++c25_)).length,false⟩) <|
              ww (p:=0<(c25_).length) (hc26) <|
              ww (p:=rdT (layT (rows rw_iiiiiiLu c20_)) (Nat.mul (c20_).length 8) 0=some (rows rw_iiiiiiLu c20_)) (qkk_ rwf_iiiiiiLu _ _ rfl) <|
              ww (p:=fits (Nat.add (c20_).length (c25_).length) 80=true) (fits_ok hc27 (by have:=hc27; show (_:Nat)+_≤_; omega)) <|
              ww (p:=qm_ (rows rw_iiiiiiLu c25_)=true) (qc6_ rwf_iiiiiiLu _) <|
              ww (p:=qm_ (rows rw_iiiiiiLu c20_)=true) (qc6_ rwf_iiiiiiLu _) <|
              ww (p:=rows rw_iiiiiiLu c20_++(rows rw_iiiiiiLu c25_)=(rows rw_iiiiiiLu (c20_++c25_))) (qij_ rw_iiiiiiLu c20_ c25_) <|
              ww (p:=Nat.add (c20_).length (c25_).length=((c20_++c25_)).length) (by simp<;>(try simp only[List.length_cons] at *)<;>omega) <|
              ww (qb_ rwf_iiiiiiLu (c20_++c25_) 46) <|
              ee) (by kernel_rfl)
          | cons c19_a c19_t=>
           dsimp only at h
           have k41:=fun {A L l} (k:PL A L l)=>ww (qi0_ n (rnd:=none) a0 a1 a2 c15_ c16_ (([]:List R8),0) (c19_a::c19_t) hc19) <|
            ll 106 ⟨(kW [0,1,2,9,10,11,12] [] 1 0),(qcg_ a0 a1 a2 c15_ c16_ (c19_a::c19_t)).1,(qcg_ a0 a1 a2 c15_ c16_ (c19_a::c19_t)).2⟩ <|
            k
           rcases hc20:qf_ n a2 a1 with _ | (⟨⟩ | c20_)
           ·rw[hc20] at h; cases h
           ·rw[hc20] at h
            dsimp only at h
            obtain⟨hc21,h⟩:=gd h
            obtain⟨hc22,h⟩:=gd h
            obtain⟨hc23,h⟩:=gdD h
            have k43:=fun {A L l} (k:PL A L l)=>yy 111 (.call (qi_ a2 a1 (.inl ()) [] [])) <|
             ww (qg_ n a2 a1 (.inl ()) hc20) <|
             yy 112 (.app0) <|
             ww (p:=srcB P Ax.h0 8 (Value.slice none 0 0)=some (0,[])) (rfl) <|
             ww (p:=∀ H:AH,qr6_ H 8 46 80 (0,[]) (sN 0 0 ((c19_a::c19_t)).length (Nat.add big 8))=some ((sN 0 0 ((c19_a::c19_t)).length (Nat.add big 8)),H)) (fun H=>top0 (by decide) (by have:=hc21; show (_:Nat)≤1180591620717411303424+8; omega) H) <|
             yy 118 (.pur (wlV (wlSub rwf_iiiiiiLu a0 (c15_).toNat (a0).l.length hc23))) <|
             ww (p:=qjt_ P 22 (wlV a0) (some (i6 c15_)) none none Ax.h0=some ((wlV (wlSub rwf_iiiiiiLu a0 (c15_).toNat (a0).l.length hc23)),Ax.h0)) (slWL (e:=46) rwf_iiiiiiLu a0 (by kernel_rfl) (by kernel_rfl) (qsu_ hc22) rfl hc23) <|
             k
            rcases hc24:qf_ n (wlSub rwf_iiiiiiLu a0 (c15_).toNat (a0).l.length hc23) c16_ with _ | (⟨⟩ | c24_)
            ·rw[hc24] at h; cases h
            ·rw[hc24] at h
             dsimp only at h
             obtain rfl:=oI h
             exact runF2 hm (kW [6,7] [(0,0,true)] 1 0) (k0 <|
              k2 <|
              k5 <|
              k6 <|
              k7 <|
              k14 <|
              k21 <|
              k28 <|
              k35 <|
              k40 <|
              k41 <|
              k43 <|
              yy 120 (.call (qi_ (wlSub rwf_iiiiiiLu a0 (c15_).toNat (a0).l.length hc23) c16_ (.inl ()) [] [])) <|
              ww (qg_ n (wlSub rwf_iiiiiiLu a0 (c15_).toNat (a0).l.length hc23) c16_ (.inl ()) hc24) <|
              yy 121 (.app0) <|
              ww (p:=srcB P Ax.h0 8 (Value.slice none 0 0)=some (0,[])) (rfl) <|
              ww (p:=∀ H:AH,qr6_ H 8 46 80 (0,[]) (sN 0 0 ((c19_a::c19_t)).length (Nat.add big 8))=some ((sN 0 0 ((c19_a::c19_t)).length (Nat.add big 8)),H)) (fun H=>top0 (by decide) (by have:=hc21; show (_:Nat)≤1180591620717411303424+8; omega) H) <|
              ww (qb_ rwf_iiiiiiLu (c19_a::c19_t) 46) <|
              ee) (by kernel_rfl)
            ·rw[hc24] at h
             dsimp only at h
             replace h:=gd h
             obtain⟨hc25,h⟩:=h
             replace h:=gd h
             obtain⟨hc26,h⟩:=h
             obtain rfl:=oI h
             exact runF2 hm (kW [6,7] [(0,2,true)] 1 0) (k0 <|
              k2 <|
              k5 <|
              k6 <|
              k7 <|
              k14 <|
              k21 <|
              k28 <|
              k35 <|
              k40 <|
              k41 <|
              k43 <|
              yy 120 (.call (qi_ (wlSub rwf_iiiiiiLu a0 (c15_).toNat (a0).l.length hc23) c16_ (.inr c24_) [] [(1,0,true)])) <|
              ww (qg_ n (wlSub rwf_iiiiiiLu a0 (c15_).toNat (a0).l.length hc23) c16_ (.inr c24_) hc24) <|
              ww (qb_ rwf_iiiiiiLu c24_ 46) <|
              ww (p:=(c24_).length=(c24_).length) (rfl) <|
              ww (p:=rdT (layT (rows rw_iiiiiiLu c24_)) (Nat.mul (c24_).length 8) 0=some (rows rw_iiiiiiLu c24_)) (qkk_ rwf_iiiiiiLu _ _ rfl) <|
              yy 121 (.app ⟨some ((c24_).length,(rows rw_iiiiiiLu c24_)),rows rw_iiiiiiLu (c19_a::c19_t),(rows rw_iiiiiiLu ((c19_a::c19_t)++c24_)),(((c19_a::c19_t)++c24_)).length,false⟩) <|
              ww (p:=0<(c24_).length) (hc25) <|
              ww (p:=rdT (layT (rows rw_iiiiiiLu (c19_a::c19_t))) (Nat.mul ((c19_a::c19_t)).length 8) 0=some (rows rw_iiiiiiLu (c19_a::c19_t))) (qkk_ rwf_iiiiiiLu _ _ rfl) <|
              ww (p:=fits (Nat.add ((c19_a::c19_t)).length (c24_).length) 80=true) (fits_ok hc26 (by have:=hc26; show (_:Nat)+_≤_; omega)) <|
              ww (p:=qm_ (rows rw_iiiiiiLu c24_)=true) (qc6_ rwf_iiiiiiLu _) <|
              ww (p:=qm_ (rows rw_iiiiiiLu (c19_a::c19_t))=true) (qc6_ rwf_iiiiiiLu _) <|
              ww (p:=rows rw_iiiiiiLu (c19_a::c19_t)++(rows rw_iiiiiiLu c24_)=(rows rw_iiiiiiLu ((c19_a::c19_t)++c24_))) (qij_ rw_iiiiiiLu (c19_a::c19_t) c24_) <|
              ww (p:=Nat.add ((c19_a::c19_t)).length (c24_).length=(((c19_a::c19_t)++c24_)).length) (by simp<;>(try simp only[List.length_cons] at *)<;>omega) <|
              ww (qb_ rwf_iiiiiiLu ((c19_a::c19_t)++c24_) 46) <|
              ee) (by kernel_rfl)
           ·rw[hc20] at h
            dsimp only at h
            obtain⟨hc21,h⟩:=gd h
            obtain⟨hc22,h⟩:=gd h
            obtain⟨hc23,h⟩:=gd h
            obtain⟨hc24,h⟩:=gdD h
            have k43:=fun {A L l} (k:PL A L l)=>yy 111 (.call (qi_ a2 a1 (.inr c20_) [] [(1,0,true)])) <|
             ww (qg_ n a2 a1 (.inr c20_) hc20) <|
             ww (qb_ rwf_iiiiiiLu c20_ 46) <|
             ww (p:=(c20_).length=(c20_).length) (rfl) <|
             ww (p:=rdT (layT (rows rw_iiiiiiLu c20_)) (Nat.mul (c20_).length 8) 0=some (rows rw_iiiiiiLu c20_)) (qkk_ rwf_iiiiiiLu _ _ rfl) <|
             yy 112 (.app ⟨some ((c20_).length,(rows rw_iiiiiiLu c20_)),rows rw_iiiiiiLu (c19_a::c19_t),(rows rw_iiiiiiLu ((c19_a::c19_t)++c20_)),(((c19_a::c19_t)++c20_)).length,false⟩) <|
             ww (p:=0<(c20_).length) (hc21) <|
             ww (p:=rdT (layT (rows rw_iiiiiiLu (c19_a::c19_t))) (Nat.mul ((c19_a::c19_t)).length 8) 0=some (rows rw_iiiiiiLu (c19_a::c19_t))) (qkk_ rwf_iiiiiiLu _ _ rfl) <|
             ww (p:=fits (Nat.add ((c19_a::c19_t)).length (c20_).length) 80=true) (fits_ok hc22 (by have:=hc22; show (_:Nat)+_≤_; omega)) <|
             ww (p:=qm_ (rows rw_iiiiiiLu c20_)=true) (qc6_ rwf_iiiiiiLu _) <|
             ww (p:=qm_ (rows rw_iiiiiiLu (c19_a::c19_t))=true) (qc6_ rwf_iiiiiiLu _) <|
             ww (p:=rows rw_iiiiiiLu (c19_a::c19_t)++(rows rw_iiiiiiLu c20_)=(rows rw_iiiiiiLu ((c19_a::c19_t)++c20_))) (qij_ rw_iiiiiiLu (c19_a::c19_t) c20_) <|
             ww (p:=Nat.add ((c19_a::c19_t)).length (c20_).length=(((c19_a::c19_t)++c20_)).length) (by simp<;>(try simp only[List.length_cons] at *)<;>omega) <|
             yy 118 (.pur (wlV (wlSub rwf_iiiiiiLu a0 (c15_).toNat (a0).l.length hc24))) <|
             ww (p:=qjt_ P 22 (wlV a0) (some (i6 c15_)) none none Ax.h0=some ((wlV (wlSub rwf_iiiiiiLu a0 (c15_).toNat (a0).l.length hc24)),Ax.h0)) (slWL (e:=46) rwf_iiiiiiLu a0 (by kernel_rfl) (by kernel_rfl) (qsu_ hc23) rfl hc24) <|
             k
            rcases hc25:qf_ n (wlSub rwf_iiiiiiLu a0 (c15_).toNat (a0).l.length hc24) c16_ with _ | (⟨⟩ | c25_)
            ·rw[hc25] at h; cases h
            ·rw[hc25] at h
             dsimp only at h
             replace h:=gd h
             obtain⟨hc26,h⟩:=h
             obtain rfl:=oI h
             exact runF2 hm (kW [6,7] [(0,2,true)] 1 0) (k0 <|
              k2 <|
              k5 <|
              k6 <|
              k7 <|
              k14 <|
              k21 <|
              k28 <|
              k35 <|
              k40 <|
              k41 <|
              k43 <|
              yy 120 (.call (qi_ (wlSub rwf_iiiiiiLu a0 (c15_).toNat (a0).l.length hc24) c16_ (.inl ()) [] [])) <|
              ww (qg_ n (wlSub rwf_iiiiiiLu a0 (c15_).toNat (a0).l.length hc24) c16_ (.inl ()) hc25) <|
              yy 121 (.app0) <|
              ww (p:=srcB P Ax.h0 8 (Value.slice none 0 0)=some (0,[])) (rfl) <|
              ww (p:=∀ H:AH,qr6_ H 8 46 80 (0,[]) (sN 2 0 (((c19_a::c19_t)++c20_)).length (Nat.add big 8))=some ((sN 2 0 (((c19_a::c19_t)++c20_)).length (Nat.add big 8)),H)) (fun H=>top0 (by decide) (by have:=hc26; show (_:Nat)≤1180591620717411303424+8; omega) H) <|
              ww (qb_ rwf_iiiiiiLu ((c19_a::c19_t)++c20_) 46) <|
              ee) (by kernel_rfl)
            ·rw[hc25] at h
             dsimp only at h
             replace h:=gd h
             obtain⟨hc26,h⟩:=h
             replace h:=gd h
             obtain⟨hc27,h⟩:=h
             obtain rfl:=oI h
             exact runF2 hm (kW [6,7] [(0,4,true)] 1 0) (k0 <|
              k2 <|
              k5 <|
              k6 <|
              k7 <|
              k14 <|
              k21 <|
              k28 <|
              k35 <|
              k40 <|
              k41 <|
              k43 <|
              yy 120 (.call (qi_ (wlSub rwf_iiiiiiLu a0 (c15_).toNat (a0).l.length hc24) c16_ (.inr c25_) [] [(3,0,true)])) <|
              ww (qg_ n (wlSub rwf_iiiiiiLu a0 (c15_).toNat (a0).l.length hc24) c16_ (.inr c25_) hc25) <|
              ww (qb_ rwf_iiiiiiLu c25_ 46) <|
              ww (p:=(c25_).length=(c25_).length) (rfl) <|
              ww (p:=rdT (layT (rows rw_iiiiiiLu c25_)) (Nat.mul (c25_).length 8) 0=some (rows rw_iiiiiiLu c25_)) (qkk_ rwf_iiiiiiLu _ _ rfl) <|
              yy 121 (.app ⟨some ((c25_).length,(rows rw_iiiiiiLu c25_)),rows rw_iiiiiiLu ((c19_a::c19_t)++c20_),(rows rw_iiiiiiLu (((c19_a::c19_t)++c20_)++c25_)),((((c19_a::c19_t)++c20_)++c25_)).length,false⟩) <|
              ww (p:=0<(c25_).length) (hc26) <|
              ww (p:=rdT (layT (rows rw_iiiiiiLu ((c19_a::c19_t)++c20_))) (Nat.mul (((c19_a::c19_t)++c20_)).length 8) 0=some (rows rw_iiiiiiLu ((c19_a::c19_t)++c20_))) (qkk_ rwf_iiiiiiLu _ _ rfl) <|
              ww (p:=fits (Nat.add (((c19_a::c19_t)++c20_)).length (c25_).length) 80=true) (fits_ok hc27 (by have:=hc27; show (_:Nat)+_≤_; omega)) <|
              ww (p:=qm_ (rows rw_iiiiiiLu c25_)=true) (qc6_ rwf_iiiiiiLu _) <|
              ww (p:=qm_ (rows rw_iiiiiiLu ((c19_a::c19_t)++c20_))=true) (qc6_ rwf_iiiiiiLu _) <|
              ww (p:=rows rw_iiiiiiLu ((c19_a::c19_t)++c20_)++(rows rw_iiiiiiLu c25_)=(rows rw_iiiiiiLu (((c19_a::c19_t)++c20_)++c25_))) (qij_ rw_iiiiiiLu ((c19_a::c19_t)++c20_) c25_) <|
              ww (p:=Nat.add (((c19_a::c19_t)++c20_)).length (c25_).length=((((c19_a::c19_t)++c20_)++c25_)).length) (by simp<;>(try simp only[List.length_cons] at *)<;>omega) <|
              ww (qb_ rwf_iiiiiiLu (((c19_a::c19_t)++c20_)++c25_) 46) <|
              ee) (by kernel_rfl)
        ·rw[if_neg hc14] at h
         obtain rfl:=oI h
         exact runF2 hm (kW [6,7] [] 0 0) (k0 <|
          k2 <|
          k5 <|
          k6 <|
          k7 <|
          k14 <|
          k21 <|
          k28 <|
          zz 76 (xnT hc14) <|
          ee) (by kernel_rfl)
       ·rw[if_neg hc13] at h
        obtain rfl:=oI h
        exact runF2 hm (kW [6,7] [] 0 0) (k0 <|
         k2 <|
         k5 <|
         k6 <|
         k7 <|
         k14 <|
         k21 <|
         zz 64 (xnT hc13) <|
         ee) (by kernel_rfl)
      ·rw[if_neg hc12] at h
       obtain rfl:=oI h
       exact runF2 hm (kW [6,7] [] 0 0) (k0 <|
        k2 <|
        k5 <|
        k6 <|
        k7 <|
        k14 <|
        zz 52 (xnT hc12) <|
        ee) (by kernel_rfl)
     ·rw[if_neg hc11] at h
      obtain rfl:=oI h
      exact runF2 hm (kW [6,7] [] 0 0) (k0 <|
       k2 <|
       k5 <|
       k6 <|
       k7 <|
       zz 40 (xnT hc11) <|
       ee) (by kernel_rfl)
  ·rw[if_neg hc4] at h
   obtain rfl:=oI h
   exact runF2 hm (kW [6,7] [] 0 0) (k0 <|
    k2 <|
    zz 18 (xnT hc4) <|
    ee) (by kernel_rfl)
 ·rw[if_neg hc2] at h
  obtain rfl:=oI h
  exact runF2 hm (kW [6,7] [] 0 0) (k0 <|
   zz 10 (xeF hc2) <|
   zz 15 (xnT hc2) <|
   ee) (by kernel_rfl)


end Go.Proofs.Ytdcocjjkfodjeaa.spc20
