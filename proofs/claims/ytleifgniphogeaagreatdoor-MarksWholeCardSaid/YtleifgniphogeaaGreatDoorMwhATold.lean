/-
  What functions do, told by pure functions. No condition.
-/
import Derived.Test.YtleifgniphogeaaGreatDoorMwhLives
set_option linter.unusedSimpArgs false
set_option linter.unusedVariables false
set_option linter.unusedSectionVars false
set_option linter.unnecessarySimpa false
set_option maxRecDepth 100000
noncomputable section
namespace Go.Proofs.YtleifgniphogeaaGreatDoor.mwh19
open Go Go.Proofs.YtleifgniphogeaaGreatDoor Ax
abbrev R8 [Nest]:Type:=Int×Int×Int×Int×Int×Int×NL×Int
variable [Args]
def rw_b (x:Bool):List Value:=[Value.bool x]
theorem rwf_b:RowF rw_b 1:=⟨fun _=>rfl,fun a v h=>by
 simp only[rw_b,List.mem_cons,List.not_mem_nil,or_false] at h
 rcases h with rfl<;>rfl,fun _=>rfl⟩
def qgp_ (x:Int×Int×Int):List Value:=[Value.int .i64 (x.1),Value.int .i64 (x.2.1),Value.int .i64 (x.2.2)]
theorem qhr_:RowF qgp_ 3:=⟨fun _=>rfl,fun a v h=>by
 simp only[qgp_,List.mem_cons,List.not_mem_nil,or_false] at h
 rcases h with rfl | rfl | rfl<;>rfl,fun _=>rfl⟩
abbrev xp1 (b o n k:Nat)(i:Int):Prop:=IA P 22 (sW b o n k) i (pW b (Nat.add o (i.toNat*8)))
theorem xk1 (b o k:Nat){n:Nat}{i:Int}(h:0≤i∧i<(n:Int)):OB (.pur (pW b (Nat.add o (i.toNat*8)))) (xp1 b o n k i):=⟨ixWO (e:=35) (by kernel_rfl) (by kernel_rfl) h⟩
abbrev lp2 (x:WL rw_iiiiiiLu)(i:Nat)(r:R8):Prop:=Lg P 35 (pW x.num (Nat.add x.off (i*8))) (Value.agg #[(i6 (r.1)),(i6 (r.2.1)),(i6 (r.2.2.1)),(i6 (r.2.2.2.1)),(i6 (r.2.2.2.2.1)),(i6 (r.2.2.2.2.2.1)),(nlV (r.2.2.2.2.2.2.1)),(Value.int .u64 (r.2.2.2.2.2.2.2))])
theorem lk2 {x:WL rw_iiiiiiLu}{i:Nat}{r:Int×Int×Int×Int×Int×Int×NL×Int}(hr:some ((x.l).getD i (0,0,0,0,0,0,nl0,0))=some r)(h:i<(x.l).length):OB (.ld (Value.agg #[(i6 (r.1)),(i6 (r.2.1)),(i6 (r.2.2.1)),(i6 (r.2.2.2.1)),(i6 (r.2.2.2.2.1)),(i6 (r.2.2.2.2.2.1)),(nlV (r.2.2.2.2.2.2.1)),(Value.int .u64 (r.2.2.2.2.2.2.2))])) (lp2 x i r):=by cases hr; exact⟨ldRA rwf_iiiiiiLu (0,0,0,0,0,0,nl0,0) (i:=i) (q:=0) x (n:=8) (Nat.add x.off (i*8)) rfl (by kernel_rfl) (by kernel_rfl) h (by decide) (by decide) rfl⟩
abbrev fp3 (b o:Nat):Prop:=FA P 35 (pW b o) 1 (pW b (Nat.add o 1))
theorem fk3 (b o:Nat):OB (.pur (pW b (Nat.add o 1))) (fp3 b o):=⟨by unfold fp3 FA; kernel_rfl⟩
abbrev lp4 (x:WL rw_iiiiiiLu)(i:Nat)(r:R8):Prop:=Lg P 3 (pW x.num (Nat.add (Nat.add x.off (i*8)) 1)) (i6 (r.2.1))
theorem lk4 {x:WL rw_iiiiiiLu}{i:Nat}{r:Int×Int×Int×Int×Int×Int×NL×Int}(hr:some ((x.l).getD i (0,0,0,0,0,0,nl0,0))=some r)(h:i<(x.l).length):OB (.ld (i6 (r.2.1))) (lp4 x i r):=by cases hr; exact⟨ldRS rwf_iiiiiiLu (0,0,0,0,0,0,nl0,0) (i:=i) (q:=1) x (Nat.add (Nat.add x.off (i*8)) 1) rfl (by kernel_rfl) h (by decide) rfl⟩
abbrev fp5 (b o:Nat):Prop:=FA P 35 (pW b o) 2 (pW b (Nat.add o 2))
theorem fk5 (b o:Nat):OB (.pur (pW b (Nat.add o 2))) (fp5 b o):=⟨by unfold fp5 FA; kernel_rfl⟩
abbrev lp6 (x:WL rw_iiiiiiLu)(i:Nat)(r:R8):Prop:=Lg P 3 (pW x.num (Nat.add (Nat.add x.off (i*8)) 2)) (i6 (r.2.2.1))
theorem lk6 {x:WL rw_iiiiiiLu}{i:Nat}{r:Int×Int×Int×Int×Int×Int×NL×Int}(hr:some ((x.l).getD i (0,0,0,0,0,0,nl0,0))=some r)(h:i<(x.l).length):OB (.ld (i6 (r.2.2.1))) (lp6 x i r):=by cases hr; exact⟨ldRS rwf_iiiiiiLu (0,0,0,0,0,0,nl0,0) (i:=i) (q:=2) x (Nat.add (Nat.add x.off (i*8)) 2) rfl (by kernel_rfl) h (by decide) rfl⟩
abbrev fp7 (b o:Nat):Prop:=FA P 35 (pW b o) 6 (pW b (Nat.add o 6))
theorem fk7 (b o:Nat):OB (.pur (pW b (Nat.add o 6))) (fp7 b o):=⟨by unfold fp7 FA; kernel_rfl⟩
abbrev lp8 (x:WL rw_iiiiiiLu)(i:Nat)(r:R8):Prop:=Lg P 29 (pW x.num (Nat.add (Nat.add x.off (i*8)) 6)) (nlV (r.2.2.2.2.2.2.1))
theorem lk8 {x:WL rw_iiiiiiLu}{i:Nat}{r:Int×Int×Int×Int×Int×Int×NL×Int}(hr:some ((x.l).getD i (0,0,0,0,0,0,nl0,0))=some r)(h:i<(x.l).length):OB (.ld (nlV (r.2.2.2.2.2.2.1))) (lp8 x i r):=by cases hr; exact⟨ldRS rwf_iiiiiiLu (0,0,0,0,0,0,nl0,0) (i:=i) (q:=6) x (Nat.add (Nat.add x.off (i*8)) 6) rfl (by kernel_rfl) h (by decide) rfl⟩
abbrev xp9 (b o n k:Nat)(i:Int):Prop:=IA P 29 (sW b o n k) i (pW b (Nat.add o i.toNat))
theorem xk9 (b o k:Nat){n:Nat}{i:Int}(h:0≤i∧i<(n:Int)):OB (.pur (pW b (Nat.add o i.toNat))) (xp9 b o n k i):=⟨ixWO1 (e:=3) (by kernel_rfl) (by kernel_rfl) h⟩
theorem nk10 {x:NL}{i:Nat}{v:Int}(hv:some (x.l.getD i 0)=some v)(h:i<x.l.length):OB (.ld (i6 v)) (Lg P 3 (pW (Nat.add x.num 64) (Nat.add x.off i)) (i6 v)):=by cases hv; exact⟨ldN x (by kernel_rfl) h⟩
abbrev fp11 (b o:Nat):Prop:=FA P 35 (pW b o) 4 (pW b (Nat.add o 4))
theorem fk11 (b o:Nat):OB (.pur (pW b (Nat.add o 4))) (fp11 b o):=⟨by unfold fp11 FA; kernel_rfl⟩
abbrev lp12 (x:WL rw_iiiiiiLu)(i:Nat)(r:R8):Prop:=Lg P 3 (pW x.num (Nat.add (Nat.add x.off (i*8)) 4)) (i6 (r.2.2.2.2.1))
theorem lk12 {x:WL rw_iiiiiiLu}{i:Nat}{r:Int×Int×Int×Int×Int×Int×NL×Int}(hr:some ((x.l).getD i (0,0,0,0,0,0,nl0,0))=some r)(h:i<(x.l).length):OB (.ld (i6 (r.2.2.2.2.1))) (lp12 x i r):=by cases hr; exact⟨ldRS rwf_iiiiiiLu (0,0,0,0,0,0,nl0,0) (i:=i) (q:=4) x (Nat.add (Nat.add x.off (i*8)) 4) rfl (by kernel_rfl) h (by decide) rfl⟩
abbrev xp13 (b n k:Nat)(i:Int):Prop:=IA P 22 (sN b 0 n k) i (pN b (i.toNat*8))
theorem xk13 (b k:Nat){n:Nat}{i:Int}(h:0≤i∧i<(n:Int)):OB (.pur (pN b (i.toNat*8))) (xp13 b n k i):=⟨ixS (e:=35) (by kernel_rfl) (by kernel_rfl) h.1 h.2⟩
theorem set_cons {α:Type}{x v:α}{l:List α}{n:Nat}:∃ a t,(x::l).set n v=a::t:=by cases n<;>exact⟨_,_,rfl⟩
abbrev xp14 (b n k:Nat)(i:Int):Prop:=IA P 180 (sN b 0 n k) i (pN b (i.toNat*3))
theorem xk14 (b k:Nat){n:Nat}{i:Int}(h:0≤i∧i<(n:Int)):OB (.pur (pN b (i.toNat*3))) (xp14 b n k i):=⟨ixS (e:=183) (by kernel_rfl) (by kernel_rfl) h.1 h.2⟩
abbrev op15 (L:List (Int×Int×Int))(i:Nat)(r:Int×Int×Int):Prop:=(layT (rows qgp_ L)).get (Nat.add (i*3) 0)=some (i6 (r.1))
theorem ok15 {L:List (Int×Int×Int)}{i:Nat}{r:Int×Int×Int}(hr:some (L.getD i (0,0,0))=some r)(h:i<L.length):OB (.ld (i6 (r.1))) (op15 L i r):=by cases hr; exact⟨qok_ qhr_ (0,0,0) (i:=i) (j:=0) (Nat.add (i*3) 0) rfl h (by decide) rfl⟩
abbrev op16 (L:List (Int×Int×Int))(i:Nat)(r:Int×Int×Int):Prop:=(layT (rows qgp_ L)).get (Nat.add (i*3) 1)=some (i6 (r.2.1))
theorem ok16 {L:List (Int×Int×Int)}{i:Nat}{r:Int×Int×Int}(hr:some (L.getD i (0,0,0))=some r)(h:i<L.length):OB (.ld (i6 (r.2.1))) (op16 L i r):=by cases hr; exact⟨qok_ qhr_ (0,0,0) (i:=i) (j:=1) (Nat.add (i*3) 1) rfl h (by decide) rfl⟩
abbrev op17 (L:List (Int×Int×Int))(i:Nat)(r:Int×Int×Int):Prop:=(layT (rows qgp_ L)).get (Nat.add (i*3) 2)=some (i6 (r.2.2))
theorem ok17 {L:List (Int×Int×Int)}{i:Nat}{r:Int×Int×Int}(hr:some (L.getD i (0,0,0))=some r)(h:i<L.length):OB (.ld (i6 (r.2.2))) (op17 L i r):=by cases hr; exact⟨qok_ qhr_ (0,0,0) (i:=i) (j:=2) (Nat.add (i*3) 2) rfl h (by decide) rfl⟩
theorem qr1_ {α:Type}(l:List α)(x:α):∃ a t,l ++ [x]=a::t:=by
 cases l with
 | nil=>exact⟨_,_,rfl⟩
 | cons a t=>exact⟨_,_,rfl⟩
abbrev op18 (L:List R8)(i:Nat)(r:R8):Prop:=(layT (rows rw_iiiiiiLu L)).get (Nat.add (i*8) 6)=some (nlV (r.2.2.2.2.2.2.1))
theorem ok18 {L:List R8}{i:Nat}{r:Int×Int×Int×Int×Int×Int×NL×Int}(hr:some (L.getD i (0,0,0,0,0,0,nl0,0))=some r)(h:i<L.length):OB (.ld (nlV (r.2.2.2.2.2.2.1))) (op18 L i r):=by cases hr; exact⟨qok_ rwf_iiiiiiLu (0,0,0,0,0,0,nl0,0) (i:=i) (j:=6) (Nat.add (i*8) 6) rfl h (by decide) rfl⟩
abbrev xp19 (b n k:Nat)(i:Int):Prop:=IA P 29 (sN b 0 n k) i (pN b i.toNat)
theorem xk19 (b k:Nat){n:Nat}{i:Int}(h:0≤i∧i<(n:Int)):OB (.pur (pN b i.toNat)) (xp19 b n k i):=⟨ixS1 (e:=3) (by kernel_rfl) (by kernel_rfl) h⟩
abbrev op20 (L:List R8)(i:Nat)(r:R8):Prop:=(layT (rows rw_iiiiiiLu L)).get (Nat.add (i*8) 5)=some (i6 (r.2.2.2.2.2.1))
theorem ok20 {L:List R8}{i:Nat}{r:Int×Int×Int×Int×Int×Int×NL×Int}(hr:some (L.getD i (0,0,0,0,0,0,nl0,0))=some r)(h:i<L.length):OB (.ld (i6 (r.2.2.2.2.2.1))) (op20 L i r):=by cases hr; exact⟨qok_ rwf_iiiiiiLu (0,0,0,0,0,0,nl0,0) (i:=i) (j:=5) (Nat.add (i*8) 5) rfl h (by decide) rfl⟩
abbrev op21 (L:List R8)(i:Nat)(r:R8):Prop:=(layT (rows rw_iiiiiiLu L)).get (Nat.add (i*8) 1)=some (i6 (r.2.1))
theorem ok21 {L:List R8}{i:Nat}{r:Int×Int×Int×Int×Int×Int×NL×Int}(hr:some (L.getD i (0,0,0,0,0,0,nl0,0))=some r)(h:i<L.length):OB (.ld (i6 (r.2.1))) (op21 L i r):=by cases hr; exact⟨qok_ rwf_iiiiiiLu (0,0,0,0,0,0,nl0,0) (i:=i) (j:=1) (Nat.add (i*8) 1) rfl h (by decide) rfl⟩
abbrev xp22 (b n k:Nat)(i:Int):Prop:=IA P 53 (sN b 0 n k) i (pN b (i.toNat*1))
theorem xk22 (b k:Nat){n:Nat}{i:Int}(h:0≤i∧i<(n:Int)):OB (.pur (pN b (i.toNat*1))) (xp22 b n k i):=⟨ixS (e:=4) (by kernel_rfl) (by kernel_rfl) h.1 h.2⟩
abbrev op23 (L:List (Bool))(i:Nat)(r:Bool):Prop:=(layT (rows rw_b L)).get (i*1)=some (bO r)
theorem ok23 {L:List (Bool)}{i:Nat}{r:Bool}(hr:some (L.getD i (false))=some r)(h:i<L.length):OB (.ld (bO r)) (op23 L i r):=by cases hr; exact⟨qok_ rwf_b (false) (i:=i) (j:=0) (i*1) rfl h (by decide) rfl⟩
abbrev op24 (L:List R8)(i:Nat)(r:R8):Prop:=(layT (rows rw_iiiiiiLu L)).get (Nat.add (i*8) 2)=some (i6 (r.2.2.1))
theorem ok24 {L:List R8}{i:Nat}{r:Int×Int×Int×Int×Int×Int×NL×Int}(hr:some (L.getD i (0,0,0,0,0,0,nl0,0))=some r)(h:i<L.length):OB (.ld (i6 (r.2.2.1))) (op24 L i r):=by cases hr; exact⟨qok_ rwf_iiiiiiLu (0,0,0,0,0,0,nl0,0) (i:=i) (j:=2) (Nat.add (i*8) 2) rfl h (by decide) rfl⟩
abbrev op25 (L:List R8)(i:Nat)(r:R8):Prop:=(layT (rows rw_iiiiiiLu L)).get (Nat.add (i*8) 4)=some (i6 (r.2.2.2.2.1))
theorem ok25 {L:List R8}{i:Nat}{r:Int×Int×Int×Int×Int×Int×NL×Int}(hr:some (L.getD i (0,0,0,0,0,0,nl0,0))=some r)(h:i<L.length):OB (.ld (i6 (r.2.2.2.2.1))) (op25 L i r):=by cases hr; exact⟨qok_ rwf_iiiiiiLu (0,0,0,0,0,0,nl0,0) (i:=i) (j:=4) (Nat.add (i*8) 4) rfl h (by decide) rfl⟩

def qg0_ (n:Nat):Option Unit:=some ()
theorem qmz_ (n:Nat)(r:Unit)(h:qg0_ n=some r):Gv P (.func 4) [] Ax.h0 (.bool true) Ax.h0:=lives_gv

def qg6_ (a0:WL rw_iiiiiiLu)(a1:Int):List Value:=[(wlV a0),(i6 a1)]
def qg7_ (a0:WL rw_iiiiiiLu)(a1:Int):AH:=⟨sB [],0,0⟩
def qea_ (a0:WL rw_iiiiiiLu)(a1:Int)(r:Bool):Value:=match r with
 | o0=>(bO o0)
def qeb_ (a0:WL rw_iiiiiiLu)(a1:Int)(r:Bool):AH:=match r with
 | o0=>⟨sB [],0,0⟩
abbrev quz_ (a0:WL rw_iiiiiiLu)(a1:Int)(r:Bool):Prop:=Gv P (.func 5) (qg6_ a0 a1) (qg7_ a0 a1) (qea_ a0 a1 r) (qeb_ a0 a1 r)
abbrev qly_ (a0:WL rw_iiiiiiLu)(a1:Int)(r:Bool)(ins outs:BL):CallA:=⟨0,ins,qea_ a0 a1 r,qeb_ a0 a1 r,outs⟩
def qbp_ (x0:WL rw_iiiiiiLu)(x1:Int)(st:Int×Int):XSt:=match st with
 | (x2,x3)=>(sT 66 [(0,(wlV x0)),(1,(i6 x1)),(5,(i6 x2)),(6,(i6 x3))],[],⟨sB [],0,0⟩)
def qs_ (x0:WL rw_iiiiiiLu)(x1:Int)(r:(Unit) ⊕ (Int)):Ex×XSt:=match r with
 | .inl _=>(.ret,(sT 66 [(4,(bO false))],[],⟨sB [],0,0⟩))
 | .inr z0=>(.exit 0,(sT 66 [(0,(wlV x0)),(1,(i6 x1)),(5,(i6 z0))],[],⟨sB [],0,0⟩))
abbrev qtu_ (rnd:Option Nat)(x0:WL rw_iiiiiiLu)(x1:Int)(st:Int×Int)(c:Ex×XSt):Prop:=CG P rnd (fnN P 5) 0 (qo_ P 5 [false,false,true,false,true,true]) (qbp_ x0 x1 st) c
def q5_ (n:Nat)(x0:WL rw_iiiiiiLu)(x1:Int)(st:Int×Int):Option ((Int×Int) ⊕ ((Unit) ⊕ (Int))):=match st with
 | (x2,x3)=>
  if x3<(((x0).l.length:Nat):Int) then
   if x3≤x1 then
    if 0≤x3∧x3<(((x0).l.length:Nat):Int) then
     ((some (((x0).l).getD (x3).toNat (0,0,0,0,0,0,nl0,0)))).bind fun y4_=>
     ((some (w64 (x2+((((y4_.2.2.2.2.2.2.1)).l.length:Nat):Int))))).bind fun y5_=>
     if (y4_.2.2.1) > 1048576 then
      some (.inr (.inl ()))
     else
      if (y4_.2.2.2.2.1) > 1048576 then
       some (.inr (.inl ()))
      else
       if (y4_.2.2.2.2.2.1) > 1048576 then
        some (.inr (.inl ()))
       else
        if (y4_.2.2.1)<(-1048576:Int) then
         some (.inr (.inl ()))
        else
         if (y4_.2.2.2.2.1)<(-1048576:Int) then
          some (.inr (.inl ()))
         else
          if (y4_.2.2.2.2.2.1)<(-1048576:Int) then
           some (.inr (.inl ()))
          else
           some (.inl (y5_,(w64 (x3+1))))
    else none
   else
    some (.inr (.inr x2))
  else
   some (.inr (.inr x2))
def qcm_ (n:Nat)(x0:WL rw_iiiiiiLu)(x1:Int)(st:Int×Int):Option ((Unit) ⊕ (Int)):=iterM (q5_ n x0 x1) n st
theorem qf5_ (n:Nat){rnd:Option Nat}(x0:WL rw_iiiiiiLu)(x1:Int)(st:Int×Int)(o:(Int×Int) ⊕ ((Unit) ⊕ (Int)))(h:q5_ n x0 x1 st=some o):CG P rnd (fnN P 5) 0 (qo_ P 5 [false,false,true,false,true,true]) (qbp_ x0 x1 st) (Sum.elim (fun s=>(.normal,qbp_ x0 x1 s)) (fun r=>qs_ x0 x1 r) o):=by
 obtain⟨x2,x3⟩:=st
 unfold q5_ at h
 dsimp only at h
 by_cases hy1:x3<(((x0).l.length:Nat):Int)
 ·rw[if_pos hy1] at h
  have k0:=fun {A L l} (k:PL A L l)=>zz 5 (xdT hy1) <|
   k
  by_cases hy2:x3≤x1
  ·rw[if_pos hy2] at h
   obtain⟨hy3,h⟩:=gd h
   obtain⟨y4_,hy4,h⟩:=oB h
   obtain⟨y5_,hy5,h⟩:=oB h
   have k1:=fun {A L l} (k:PL A L l)=>zz 9 (xdT hy2) <|
    zz 17 (xk1 (x0).num (x0).off (x0).cap hy3) <|
    zz 18 (lk2 hy4 (qex_ hy3)) <|
    zz 26 (xnm hy5) <|
    k
   by_cases hy6:(y4_.2.2.1) > 1048576
   ·rw[if_pos hy6] at h
    obtain rfl:=oI h
    exact runC2 hm ⟨[4],[],0,0,[],false,[],[],[]⟩ (k0 <|
     k1 <|
     zz 31 (xdT hy6) <|
     ee) (by kernel_rfl)
   ·rw[if_neg hy6] at h
    have k5:=fun {A L l} (k:PL A L l)=>zz 31 (xdF hy6) <|
     k
    by_cases hy7:(y4_.2.2.2.2.1) > 1048576
    ·rw[if_pos hy7] at h
     obtain rfl:=oI h
     exact runC2 hm ⟨[4],[],0,0,[],false,[],[],[]⟩ (k0 <|
      k1 <|
      k5 <|
      zz 35 (xdT hy7) <|
      ee) (by kernel_rfl)
    ·rw[if_neg hy7] at h
     have k6:=fun {A L l} (k:PL A L l)=>zz 35 (xdF hy7) <|
      k
     by_cases hy8:(y4_.2.2.2.2.2.1) > 1048576
     ·rw[if_pos hy8] at h
      obtain rfl:=oI h
      exact runC2 hm ⟨[4],[],0,0,[],false,[],[],[]⟩ (k0 <|
       k1 <|
       k5 <|
       k6 <|
       zz 40 (xdT hy8) <|
       ee) (by kernel_rfl)
     ·rw[if_neg hy8] at h
      have k7:=fun {A L l} (k:PL A L l)=>zz 40 (xdF hy8) <|
       k
      by_cases hy9:(y4_.2.2.1)<(-1048576:Int)
      ·rw[if_pos hy9] at h
       obtain rfl:=oI h
       exact runC2 hm ⟨[4],[],0,0,[],false,[],[],[]⟩ (k0 <|
        k1 <|
        k5 <|
        k6 <|
        k7 <|
        zz 45 (xdT hy9) <|
        ee) (by kernel_rfl)
      ·rw[if_neg hy9] at h
       have k8:=fun {A L l} (k:PL A L l)=>zz 45 (xdF hy9) <|
        k
       by_cases hy10:(y4_.2.2.2.2.1)<(-1048576:Int)
       ·rw[if_pos hy10] at h
        obtain rfl:=oI h
        exact runC2 hm ⟨[4],[],0,0,[],false,[],[],[]⟩ (k0 <|
         k1 <|
         k5 <|
         k6 <|
         k7 <|
         k8 <|
         zz 50 (xdT hy10) <|
         ee) (by kernel_rfl)
       ·rw[if_neg hy10] at h
        have k9:=fun {A L l} (k:PL A L l)=>zz 50 (xdF hy10) <|
         k
        by_cases hy11:(y4_.2.2.2.2.2.1)<(-1048576:Int)
        ·rw[if_pos hy11] at h
         obtain rfl:=oI h
         exact runC2 hm ⟨[4],[],0,0,[],false,[],[],[]⟩ (k0 <|
          k1 <|
          k5 <|
          k6 <|
          k7 <|
          k8 <|
          k9 <|
          zz 55 (xdT hy11) <|
          ee) (by kernel_rfl)
        ·rw[if_neg hy11] at h
         obtain rfl:=oI h
         exact runC2 hm ⟨[0,1,5,6],[],0,0,[],false,[],[],[]⟩ (k0 <|
          k1 <|
          k5 <|
          k6 <|
          k7 <|
          k8 <|
          k9 <|
          zz 55 (xdF hy11) <|
          ee) (by kernel_rfl)
  ·rw[if_neg hy2] at h
   obtain rfl:=oI h
   exact runC2 hm ⟨[0,1,5],[],0,0,[],false,[],[],[]⟩ (k0 <|
    zz 9 (xdF hy2) <|
    ee) (by kernel_rfl)
 ·rw[if_neg hy1] at h
  obtain rfl:=oI h
  exact runC2 hm ⟨[0,1,5],[],0,0,[],false,[],[],[]⟩ (zz 5 (xdF hy1) <|
   ee) (by kernel_rfl)
theorem qez_ (n:Nat){rnd:Option Nat}(x0:WL rw_iiiiiiLu)(x1:Int)(st:Int×Int)(r:(Unit) ⊕ (Int))(h:qcm_ n x0 x1 st=some r):CG P rnd (fnN P 5) 0 (qo_ P 5 [false,true,false,true,true]) (qbp_ x0 x1 st) (qs_ x0 x1 r):=
 CG.iter (b:=qo_ P 5 [false,false,true,false,true,true]) (by kernel_rfl) (body:=q5_ n x0 x1) (S:=qbp_ x0 x1) (X:=qs_ x0 x1)
  (fun s s' h=>qf5_ n x0 x1 s (.inl s') h)
  (fun s r h=>qf5_ n x0 x1 s (.inr r) h)
  (fun r=>by intro hx; rcases r with _ | _<;>cases hx) h
def qbg_ (n:Nat)(a0:WL rw_iiiiiiLu)(a1:Int):Option (Bool):=
 match qcm_ n a0 a1 (0,0) with
 | none=>none
 | some (.inl _)=>
  some false
 | some (.inr c1_)=>
  if (((a0).l.length:Nat):Int)≤a1 then
   if c1_≤(w64 ((2:Int)*a1)) then
    some true
   else
    some false
  else
   some false
theorem qkg_ (n:Nat)(a0:WL rw_iiiiiiLu)(a1:Int)(r:Bool)(h:qbg_ n a0 a1=some r):Gv P (.func 5) (qg6_ a0 a1) (qg7_ a0 a1) (qea_ a0 a1 r) (qeb_ a0 a1 r):=by
 unfold qbg_ at h
 rcases hc1:qcm_ n a0 a1 (0,0) with _ | (⟨⟩ | c1_)
 ·rw[hc1] at h; cases h
 ·rw[hc1] at h
  dsimp only at h
  obtain rfl:=oI h
  exact runF2 hm ⟨[4],[],0,0,[],false,[],[],[]⟩ (ww (qez_ n (rnd:=none) a0 a1 (0,0) (.inl ()) hc1) <|
   ll 8 ⟨⟨[0,1,5,6],[],0,0,[],false,[],[],[]⟩,(qs_ a0 a1 (.inl ())).1,(qs_ a0 a1 (.inl ())).2⟩ <|
   ee) (by kernel_rfl)
 ·rw[hc1] at h
  dsimp only at h
  have k0:=fun {A L l} (k:PL A L l)=>ww (qez_ n (rnd:=none) a0 a1 (0,0) (.inr c1_) hc1) <|
   ll 8 ⟨⟨[0,1,5,6],[],0,0,[],false,[],[],[]⟩,(qs_ a0 a1 (.inr c1_)).1,(qs_ a0 a1 (.inr c1_)).2⟩ <|
   k
  by_cases hc2:(((a0).l.length:Nat):Int)≤a1
  ·rw[if_pos hc2] at h
   have k2:=fun {A L l} (k:PL A L l)=>zz 13 (xdT hc2) <|
    k
   by_cases hc3:c1_≤(w64 ((2:Int)*a1))
   ·rw[if_pos hc3] at h
    obtain rfl:=oI h
    exact runF2 hm ⟨[4],[],0,0,[],false,[],[],[]⟩ (k0 <|
     k2 <|
     zz 18 (xdT hc3) <|
     ee) (by kernel_rfl)
   ·rw[if_neg hc3] at h
    obtain rfl:=oI h
    exact runF2 hm ⟨[4],[],0,0,[],false,[],[],[]⟩ (k0 <|
     k2 <|
     zz 18 (xdF hc3) <|
     ee) (by kernel_rfl)
  ·rw[if_neg hc2] at h
   obtain rfl:=oI h
   exact runF2 hm ⟨[4],[],0,0,[],false,[],[],[]⟩ (k0 <|
    zz 13 (xdF hc2) <|
    ee) (by kernel_rfl)

def qjf_ (a0:Int):List Value:=[(i6 a0)]
def qjg_ (a0:Int):AH:=⟨sB [],0,0⟩
def qgc_ (a0:Int)(r:Bool):Value:=match r with
 | o0=>(bO o0)
def qgd_ (a0:Int)(r:Bool):AH:=match r with
 | o0=>⟨sB [],0,0⟩
abbrev G_viewportref16leafq1 (a0:Int)(r:Bool):Prop:=Gv P (.func 33) (qjf_ a0) (qjg_ a0) (qgc_ a0 r) (qgd_ a0 r)
abbrev qbe_ (a0:Int)(r:Bool)(ins outs:BL):CallA:=⟨0,ins,qgc_ a0 r,qgd_ a0 r,outs⟩
def ql_ (n:Nat)(a0:Int):Option (Bool):=
 if a0=1 then
  some false
 else
  if a0=2 then
   some false
  else
   some true
theorem qv_ (n:Nat)(a0:Int)(r:Bool)(h:ql_ n a0=some r):Gv P (.func 33) (qjf_ a0) (qjg_ a0) (qgc_ a0 r) (qgd_ a0 r):=by
 unfold ql_ at h
 by_cases hc1:a0=1
 ·rw[if_pos hc1] at h
  obtain rfl:=oI h
  exact runF2 hm ⟨[2],[],0,0,[],false,[],[],[]⟩ (zz 4 (xnF hc1) <|
   ee) (by kernel_rfl)
 ·rw[if_neg hc1] at h
  have k0:=fun {A L l} (k:PL A L l)=>zz 4 (xnT hc1) <|
   k
  by_cases hc2:a0=2
  ·rw[if_pos hc2] at h
   obtain rfl:=oI h
   exact runF2 hm ⟨[2],[],0,0,[],false,[],[],[]⟩ (k0 <|
    zz 7 (xnF hc2) <|
    ee) (by kernel_rfl)
  ·rw[if_neg hc2] at h
   obtain rfl:=oI h
   exact runF2 hm ⟨[2],[],0,0,[],false,[],[],[]⟩ (k0 <|
    zz 7 (xnT hc2) <|
    ee) (by kernel_rfl)

def qjh_ (a0 a1 a2 a3 a4 a5:Int)(a6:NL)(a7:Int):List Value:=[(Value.agg #[(i6 a0),(i6 a1),(i6 a2),(i6 a3),(i6 a4),(i6 a5),(nlV a6),(Value.int .u64 a7)])]
def qji_ (a0 a1 a2 a3 a4 a5:Int)(a6:NL)(a7:Int):AH:=⟨sB [],0,0⟩
def qge_ (a0 a1 a2 a3 a4 a5:Int)(a6:NL)(a7:Int)(r:Bool):Value:=match r with
 | o0=>(bO o0)
def qgf_ (a0 a1 a2 a3 a4 a5:Int)(a6:NL)(a7:Int)(r:Bool):AH:=match r with
 | o0=>⟨sB [],0,0⟩
abbrev G_viewportref16bareq1 (a0 a1 a2 a3 a4 a5:Int)(a6:NL)(a7:Int)(r:Bool):Prop:=Gv P (.func 15) (qjh_ a0 a1 a2 a3 a4 a5 a6 a7) (qji_ a0 a1 a2 a3 a4 a5 a6 a7) (qge_ a0 a1 a2 a3 a4 a5 a6 a7 r) (qgf_ a0 a1 a2 a3 a4 a5 a6 a7 r)
abbrev qjj_ (a0 a1 a2 a3 a4 a5:Int)(a6:NL)(a7:Int)(r:Bool)(ins outs:BL):CallA:=⟨0,ins,qge_ a0 a1 a2 a3 a4 a5 a6 a7 r,qgf_ a0 a1 a2 a3 a4 a5 a6 a7 r,outs⟩
def qp_ (n:Nat)(a0 a1 a2 a3 a4 a5:Int)(a6:NL)(a7:Int):Option (Bool):=
 if a1<1 then
  some false
 else
  if a1 > 6 then
   some false
  else
   if a2<0 then
    some false
   else
    if a2 > a4 then
     some false
    else
     if a5≤a2 then
      some false
     else
      if a1=3 then
       if a3<a2 then
        some false
       else
        if a3 > a4 then
         some false
        else
         if a1=4 then
          if a2=a4 then
           (ql_ n a1).bind fun c11_=>
           if c11_=true then
            if (((a6).l.length:Nat):Int)=0 then
             some true
            else
             some false
           else
            some true
          else
           some false
         else
          (ql_ n a1).bind fun c10_=>
          if c10_=true then
           if (((a6).l.length:Nat):Int)=0 then
            some true
           else
            some false
          else
           some true
      else
       if a1=5 then
        if a3<a2 then
         some false
        else
         if a3 > a4 then
          some false
         else
          if a1=4 then
           if a2=a4 then
            (ql_ n a1).bind fun c12_=>
            if c12_=true then
             if (((a6).l.length:Nat):Int)=0 then
              some true
             else
              some false
            else
             some true
           else
            some false
          else
           (ql_ n a1).bind fun c11_=>
           if c11_=true then
            if (((a6).l.length:Nat):Int)=0 then
             some true
            else
             some false
           else
            some true
       else
        if a1=6 then
         if a3<a2 then
          some false
         else
          if a3 > a4 then
           some false
          else
           if a1=4 then
            if a2=a4 then
             (ql_ n a1).bind fun c13_=>
             if c13_=true then
              if (((a6).l.length:Nat):Int)=0 then
               some true
              else
               some false
             else
              some true
            else
             some false
           else
            (ql_ n a1).bind fun c12_=>
            if c12_=true then
             if (((a6).l.length:Nat):Int)=0 then
              some true
             else
              some false
            else
             some true
        else
         if a3=a2 then
          if a1=4 then
           if a2=a4 then
            (ql_ n a1).bind fun c12_=>
            if c12_=true then
             if (((a6).l.length:Nat):Int)=0 then
              some true
             else
              some false
            else
             some true
           else
            some false
          else
           (ql_ n a1).bind fun c11_=>
           if c11_=true then
            if (((a6).l.length:Nat):Int)=0 then
             some true
            else
             some false
           else
            some true
         else
          some false
theorem qhs_ (n:Nat)(a0 a1 a2 a3 a4 a5:Int)(a6:NL)(a7:Int)(r:Bool)(h:qp_ n a0 a1 a2 a3 a4 a5 a6 a7=some r):Gv P (.func 15) (qjh_ a0 a1 a2 a3 a4 a5 a6 a7) (qji_ a0 a1 a2 a3 a4 a5 a6 a7) (qge_ a0 a1 a2 a3 a4 a5 a6 a7 r) (qgf_ a0 a1 a2 a3 a4 a5 a6 a7 r):=by
 unfold qp_ at h
 by_cases hc1:a1<1
 ·rw[if_pos hc1] at h
  obtain rfl:=oI h
  exact runF2 hm ⟨[2],[],0,0,[],false,[],[],[]⟩ (zz 7 (xdT hc1) <|
   ee) (by kernel_rfl)
 ·rw[if_neg hc1] at h
  have k0:=fun {A L l} (k:PL A L l)=>zz 7 (xdF hc1) <|
   k
  by_cases hc2:a1 > 6
  ·rw[if_pos hc2] at h
   obtain rfl:=oI h
   exact runF2 hm ⟨[2],[],0,0,[],false,[],[],[]⟩ (k0 <|
    zz 11 (xdT hc2) <|
    ee) (by kernel_rfl)
  ·rw[if_neg hc2] at h
   have k1:=fun {A L l} (k:PL A L l)=>zz 11 (xdF hc2) <|
    k
   by_cases hc3:a2<0
   ·rw[if_pos hc3] at h
    obtain rfl:=oI h
    exact runF2 hm ⟨[2],[],0,0,[],false,[],[],[]⟩ (k0 <|
     k1 <|
     zz 16 (xdT hc3) <|
     ee) (by kernel_rfl)
   ·rw[if_neg hc3] at h
    have k2:=fun {A L l} (k:PL A L l)=>zz 16 (xdF hc3) <|
     k
    by_cases hc4:a2 > a4
    ·rw[if_pos hc4] at h
     obtain rfl:=oI h
     exact runF2 hm ⟨[2],[],0,0,[],false,[],[],[]⟩ (k0 <|
      k1 <|
      k2 <|
      zz 23 (xdT hc4) <|
      ee) (by kernel_rfl)
    ·rw[if_neg hc4] at h
     have k3:=fun {A L l} (k:PL A L l)=>zz 23 (xdF hc4) <|
      k
     by_cases hc5:a5≤a2
     ·rw[if_pos hc5] at h
      obtain rfl:=oI h
      exact runF2 hm ⟨[2],[],0,0,[],false,[],[],[]⟩ (k0 <|
       k1 <|
       k2 <|
       k3 <|
       zz 30 (xdT hc5) <|
       ee) (by kernel_rfl)
     ·rw[if_neg hc5] at h
      have k4:=fun {A L l} (k:PL A L l)=>zz 30 (xdF hc5) <|
       k
      by_cases hc6:a1=3
      ·rw[if_pos hc6] at h
       have k5:=fun {A L l} (k:PL A L l)=>zz 36 (xeT hc6) <|
        k
       by_cases hc7:a3<a2
       ·rw[if_pos hc7] at h
        obtain rfl:=oI h
        exact runF2 hm ⟨[2],[],0,0,[],false,[],[],[]⟩ (k0 <|
         k1 <|
         k2 <|
         k3 <|
         k4 <|
         k5 <|
         zz 56 (xdT hc7) <|
         ee) (by kernel_rfl)
       ·rw[if_neg hc7] at h
        have k6:=fun {A L l} (k:PL A L l)=>zz 56 (xdF hc7) <|
         k
        by_cases hc8:a3 > a4
        ·rw[if_pos hc8] at h
         obtain rfl:=oI h
         exact runF2 hm ⟨[2],[],0,0,[],false,[],[],[]⟩ (k0 <|
          k1 <|
          k2 <|
          k3 <|
          k4 <|
          k5 <|
          k6 <|
          zz 62 (xdT hc8) <|
          ee) (by kernel_rfl)
        ·rw[if_neg hc8] at h
         have k7:=fun {A L l} (k:PL A L l)=>zz 62 (xdF hc8) <|
          k
         by_cases hc9:a1=4
         ·rw[if_pos hc9] at h
          have k8:=fun {A L l} (k:PL A L l)=>zz 80 (xnF hc9) <|
           k
          by_cases hc10:a2=a4
          ·rw[if_pos hc10] at h
           obtain⟨c11_,hc11,h⟩:=oB h
           have k9:=fun {A L l} (k:PL A L l)=>zz 86 (xeT hc10) <|
            yy 91 (.call (qbe_ a1 c11_ [] [])) <|
            ww (qv_ n a1 c11_ hc11) <|
            k
           by_cases hc12:c11_=true
           ·rw[if_pos hc12] at h
            have k12:=fun {A L l} (k:PL A L l)=>yy 92 (vf) <|
             ww (p:=(Value.bool (!c11_))=(Value.bool false)) (vBn hc12) <|
             k
            by_cases hc13:(((a6).l.length:Nat):Int)=0
            ·rw[if_pos hc13] at h
             obtain rfl:=oI h
             exact runF2 hm ⟨[2],[],0,0,[],false,[],[],[]⟩ (k0 <|
              k1 <|
              k2 <|
              k3 <|
              k4 <|
              k5 <|
              k6 <|
              k7 <|
              k8 <|
              k9 <|
              k12 <|
              zz 97 (xeT hc13) <|
              ee) (by kernel_rfl)
            ·rw[if_neg hc13] at h
             obtain rfl:=oI h
             exact runF2 hm ⟨[2],[],0,0,[],false,[],[],[]⟩ (k0 <|
              k1 <|
              k2 <|
              k3 <|
              k4 <|
              k5 <|
              k6 <|
              k7 <|
              k8 <|
              k9 <|
              k12 <|
              zz 97 (xeF hc13) <|
              ee) (by kernel_rfl)
           ·rw[if_neg hc12] at h
            obtain rfl:=oI h
            exact runF2 hm ⟨[2],[],0,0,[],false,[],[],[]⟩ (k0 <|
             k1 <|
             k2 <|
             k3 <|
             k4 <|
             k5 <|
             k6 <|
             k7 <|
             k8 <|
             k9 <|
             yy 92 (vt) <|
             ww (p:=(Value.bool (!c11_))=(Value.bool true)) (vBn (Bool.eq_false_iff.2 hc12)) <|
             ee) (by kernel_rfl)
          ·rw[if_neg hc10] at h
           obtain rfl:=oI h
           exact runF2 hm ⟨[2],[],0,0,[],false,[],[],[]⟩ (k0 <|
            k1 <|
            k2 <|
            k3 <|
            k4 <|
            k5 <|
            k6 <|
            k7 <|
            k8 <|
            zz 86 (xeF hc10) <|
            ee) (by kernel_rfl)
         ·rw[if_neg hc9] at h
          obtain⟨c10_,hc10,h⟩:=oB h
          have k8:=fun {A L l} (k:PL A L l)=>zz 80 (xnT hc9) <|
           yy 91 (.call (qbe_ a1 c10_ [] [])) <|
           ww (qv_ n a1 c10_ hc10) <|
           k
          by_cases hc11:c10_=true
          ·rw[if_pos hc11] at h
           have k11:=fun {A L l} (k:PL A L l)=>yy 92 (vf) <|
            ww (p:=(Value.bool (!c10_))=(Value.bool false)) (vBn hc11) <|
            k
           by_cases hc12:(((a6).l.length:Nat):Int)=0
           ·rw[if_pos hc12] at h
            obtain rfl:=oI h
            exact runF2 hm ⟨[2],[],0,0,[],false,[],[],[]⟩ (k0 <|
             k1 <|
             k2 <|
             k3 <|
             k4 <|
             k5 <|
             k6 <|
             k7 <|
             k8 <|
             k11 <|
             zz 97 (xeT hc12) <|
             ee) (by kernel_rfl)
           ·rw[if_neg hc12] at h
            obtain rfl:=oI h
            exact runF2 hm ⟨[2],[],0,0,[],false,[],[],[]⟩ (k0 <|
             k1 <|
             k2 <|
             k3 <|
             k4 <|
             k5 <|
             k6 <|
             k7 <|
             k8 <|
             k11 <|
             zz 97 (xeF hc12) <|
             ee) (by kernel_rfl)
          ·rw[if_neg hc11] at h
           obtain rfl:=oI h
           exact runF2 hm ⟨[2],[],0,0,[],false,[],[],[]⟩ (k0 <|
            k1 <|
            k2 <|
            k3 <|
            k4 <|
            k5 <|
            k6 <|
            k7 <|
            k8 <|
            yy 92 (vt) <|
            ww (p:=(Value.bool (!c10_))=(Value.bool true)) (vBn (Bool.eq_false_iff.2 hc11)) <|
            ee) (by kernel_rfl)
      ·rw[if_neg hc6] at h
       have k5:=fun {A L l} (k:PL A L l)=>zz 36 (xeF hc6) <|
        k
       by_cases hc7:a1=5
       ·rw[if_pos hc7] at h
        have k6:=fun {A L l} (k:PL A L l)=>zz 40 (xeT hc7) <|
         k
        by_cases hc8:a3<a2
        ·rw[if_pos hc8] at h
         obtain rfl:=oI h
         exact runF2 hm ⟨[2],[],0,0,[],false,[],[],[]⟩ (k0 <|
          k1 <|
          k2 <|
          k3 <|
          k4 <|
          k5 <|
          k6 <|
          zz 56 (xdT hc8) <|
          ee) (by kernel_rfl)
        ·rw[if_neg hc8] at h
         have k7:=fun {A L l} (k:PL A L l)=>zz 56 (xdF hc8) <|
          k
         by_cases hc9:a3 > a4
         ·rw[if_pos hc9] at h
          obtain rfl:=oI h
          exact runF2 hm ⟨[2],[],0,0,[],false,[],[],[]⟩ (k0 <|
           k1 <|
           k2 <|
           k3 <|
           k4 <|
           k5 <|
           k6 <|
           k7 <|
           zz 62 (xdT hc9) <|
           ee) (by kernel_rfl)
         ·rw[if_neg hc9] at h
          have k8:=fun {A L l} (k:PL A L l)=>zz 62 (xdF hc9) <|
           k
          by_cases hc10:a1=4
          ·rw[if_pos hc10] at h
           have k9:=fun {A L l} (k:PL A L l)=>zz 80 (xnF hc10) <|
            k
           by_cases hc11:a2=a4
           ·rw[if_pos hc11] at h
            obtain⟨c12_,hc12,h⟩:=oB h
            have k10:=fun {A L l} (k:PL A L l)=>zz 86 (xeT hc11) <|
             yy 91 (.call (qbe_ a1 c12_ [] [])) <|
             ww (qv_ n a1 c12_ hc12) <|
             k
            by_cases hc13:c12_=true
            ·rw[if_pos hc13] at h
             have k13:=fun {A L l} (k:PL A L l)=>yy 92 (vf) <|
              ww (p:=(Value.bool (!c12_))=(Value.bool false)) (vBn hc13) <|
              k
             by_cases hc14:(((a6).l.length:Nat):Int)=0
             ·rw[if_pos hc14] at h
              obtain rfl:=oI h
              exact runF2 hm ⟨[2],[],0,0,[],false,[],[],[]⟩ (k0 <|
               k1 <|
               k2 <|
               k3 <|
               k4 <|
               k5 <|
               k6 <|
               k7 <|
               k8 <|
               k9 <|
               k10 <|
               k13 <|
               zz 97 (xeT hc14) <|
               ee) (by kernel_rfl)
             ·rw[if_neg hc14] at h
              obtain rfl:=oI h
              exact runF2 hm ⟨[2],[],0,0,[],false,[],[],[]⟩ (k0 <|
               k1 <|
               k2 <|
               k3 <|
               k4 <|
               k5 <|
               k6 <|
               k7 <|
               k8 <|
               k9 <|
               k10 <|
               k13 <|
               zz 97 (xeF hc14) <|
               ee) (by kernel_rfl)
            ·rw[if_neg hc13] at h
             obtain rfl:=oI h
             exact runF2 hm ⟨[2],[],0,0,[],false,[],[],[]⟩ (k0 <|
              k1 <|
              k2 <|
              k3 <|
              k4 <|
              k5 <|
              k6 <|
              k7 <|
              k8 <|
              k9 <|
              k10 <|
              yy 92 (vt) <|
              ww (p:=(Value.bool (!c12_))=(Value.bool true)) (vBn (Bool.eq_false_iff.2 hc13)) <|
              ee) (by kernel_rfl)
           ·rw[if_neg hc11] at h
            obtain rfl:=oI h
            exact runF2 hm ⟨[2],[],0,0,[],false,[],[],[]⟩ (k0 <|
             k1 <|
             k2 <|
             k3 <|
             k4 <|
             k5 <|
             k6 <|
             k7 <|
             k8 <|
             k9 <|
             zz 86 (xeF hc11) <|
             ee) (by kernel_rfl)
          ·rw[if_neg hc10] at h
           obtain⟨c11_,hc11,h⟩:=oB h
           have k9:=fun {A L l} (k:PL A L l)=>zz 80 (xnT hc10) <|
            yy 91 (.call (qbe_ a1 c11_ [] [])) <|
            ww (qv_ n a1 c11_ hc11) <|
            k
           by_cases hc12:c11_=true
           ·rw[if_pos hc12] at h
            have k12:=fun {A L l} (k:PL A L l)=>yy 92 (vf) <|
             ww (p:=(Value.bool (!c11_))=(Value.bool false)) (vBn hc12) <|
             k
            by_cases hc13:(((a6).l.length:Nat):Int)=0
            ·rw[if_pos hc13] at h
             obtain rfl:=oI h
             exact runF2 hm ⟨[2],[],0,0,[],false,[],[],[]⟩ (k0 <|
              k1 <|
              k2 <|
              k3 <|
              k4 <|
              k5 <|
              k6 <|
              k7 <|
              k8 <|
              k9 <|
              k12 <|
              zz 97 (xeT hc13) <|
              ee) (by kernel_rfl)
            ·rw[if_neg hc13] at h
             obtain rfl:=oI h
             exact runF2 hm ⟨[2],[],0,0,[],false,[],[],[]⟩ (k0 <|
              k1 <|
              k2 <|
              k3 <|
              k4 <|
              k5 <|
              k6 <|
              k7 <|
              k8 <|
              k9 <|
              k12 <|
              zz 97 (xeF hc13) <|
              ee) (by kernel_rfl)
           ·rw[if_neg hc12] at h
            obtain rfl:=oI h
            exact runF2 hm ⟨[2],[],0,0,[],false,[],[],[]⟩ (k0 <|
             k1 <|
             k2 <|
             k3 <|
             k4 <|
             k5 <|
             k6 <|
             k7 <|
             k8 <|
             k9 <|
             yy 92 (vt) <|
             ww (p:=(Value.bool (!c11_))=(Value.bool true)) (vBn (Bool.eq_false_iff.2 hc12)) <|
             ee) (by kernel_rfl)
       ·rw[if_neg hc7] at h
        have k6:=fun {A L l} (k:PL A L l)=>zz 40 (xeF hc7) <|
         k
        by_cases hc8:a1=6
        ·rw[if_pos hc8] at h
         have k7:=fun {A L l} (k:PL A L l)=>zz 45 (xeT hc8) <|
          k
         by_cases hc9:a3<a2
         ·rw[if_pos hc9] at h
          obtain rfl:=oI h
          exact runF2 hm ⟨[2],[],0,0,[],false,[],[],[]⟩ (k0 <|
           k1 <|
           k2 <|
           k3 <|
           k4 <|
           k5 <|
           k6 <|
           k7 <|
           zz 56 (xdT hc9) <|
           ee) (by kernel_rfl)
         ·rw[if_neg hc9] at h
          have k8:=fun {A L l} (k:PL A L l)=>zz 56 (xdF hc9) <|
           k
          by_cases hc10:a3 > a4
          ·rw[if_pos hc10] at h
           obtain rfl:=oI h
           exact runF2 hm ⟨[2],[],0,0,[],false,[],[],[]⟩ (k0 <|
            k1 <|
            k2 <|
            k3 <|
            k4 <|
            k5 <|
            k6 <|
            k7 <|
            k8 <|
            zz 62 (xdT hc10) <|
            ee) (by kernel_rfl)
          ·rw[if_neg hc10] at h
           have k9:=fun {A L l} (k:PL A L l)=>zz 62 (xdF hc10) <|
            k
           by_cases hc11:a1=4
           ·rw[if_pos hc11] at h
            have k10:=fun {A L l} (k:PL A L l)=>zz 80 (xnF hc11) <|
             k
            by_cases hc12:a2=a4
            ·rw[if_pos hc12] at h
             obtain⟨c13_,hc13,h⟩:=oB h
             have k11:=fun {A L l} (k:PL A L l)=>zz 86 (xeT hc12) <|
              yy 91 (.call (qbe_ a1 c13_ [] [])) <|
              ww (qv_ n a1 c13_ hc13) <|
              k
             by_cases hc14:c13_=true
             ·rw[if_pos hc14] at h
              have k14:=fun {A L l} (k:PL A L l)=>yy 92 (vf) <|
               ww (p:=(Value.bool (!c13_))=(Value.bool false)) (vBn hc14) <|
               k
              by_cases hc15:(((a6).l.length:Nat):Int)=0
              ·rw[if_pos hc15] at h
               obtain rfl:=oI h
               exact runF2 hm ⟨[2],[],0,0,[],false,[],[],[]⟩ (k0 <|
                k1 <|
                k2 <|
                k3 <|
                k4 <|
                k5 <|
                k6 <|
                k7 <|
                k8 <|
                k9 <|
                k10 <|
                k11 <|
                k14 <|
                zz 97 (xeT hc15) <|
                ee) (by kernel_rfl)
              ·rw[if_neg hc15] at h
               obtain rfl:=oI h
               exact runF2 hm ⟨[2],[],0,0,[],false,[],[],[]⟩ (k0 <|
                k1 <|
                k2 <|
                k3 <|
                k4 <|
                k5 <|
                k6 <|
                k7 <|
                k8 <|
                k9 <|
                k10 <|
                k11 <|
                k14 <|
                zz 97 (xeF hc15) <|
                ee) (by kernel_rfl)
             ·rw[if_neg hc14] at h
              obtain rfl:=oI h
              exact runF2 hm ⟨[2],[],0,0,[],false,[],[],[]⟩ (k0 <|
               k1 <|
               k2 <|
               k3 <|
               k4 <|
               k5 <|
               k6 <|
               k7 <|
               k8 <|
               k9 <|
               k10 <|
               k11 <|
               yy 92 (vt) <|
               ww (p:=(Value.bool (!c13_))=(Value.bool true)) (vBn (Bool.eq_false_iff.2 hc14)) <|
               ee) (by kernel_rfl)
            ·rw[if_neg hc12] at h
             obtain rfl:=oI h
             exact runF2 hm ⟨[2],[],0,0,[],false,[],[],[]⟩ (k0 <|
              k1 <|
              k2 <|
              k3 <|
              k4 <|
              k5 <|
              k6 <|
              k7 <|
              k8 <|
              k9 <|
              k10 <|
              zz 86 (xeF hc12) <|
              ee) (by kernel_rfl)
           ·rw[if_neg hc11] at h
            obtain⟨c12_,hc12,h⟩:=oB h
            have k10:=fun {A L l} (k:PL A L l)=>zz 80 (xnT hc11) <|
             yy 91 (.call (qbe_ a1 c12_ [] [])) <|
             ww (qv_ n a1 c12_ hc12) <|
             k
            by_cases hc13:c12_=true
            ·rw[if_pos hc13] at h
             have k13:=fun {A L l} (k:PL A L l)=>yy 92 (vf) <|
              ww (p:=(Value.bool (!c12_))=(Value.bool false)) (vBn hc13) <|
              k
             by_cases hc14:(((a6).l.length:Nat):Int)=0
             ·rw[if_pos hc14] at h
              obtain rfl:=oI h
              exact runF2 hm ⟨[2],[],0,0,[],false,[],[],[]⟩ (k0 <|
               k1 <|
               k2 <|
               k3 <|
               k4 <|
               k5 <|
               k6 <|
               k7 <|
               k8 <|
               k9 <|
               k10 <|
               k13 <|
               zz 97 (xeT hc14) <|
               ee) (by kernel_rfl)
             ·rw[if_neg hc14] at h
              obtain rfl:=oI h
              exact runF2 hm ⟨[2],[],0,0,[],false,[],[],[]⟩ (k0 <|
               k1 <|
               k2 <|
               k3 <|
               k4 <|
               k5 <|
               k6 <|
               k7 <|
               k8 <|
               k9 <|
               k10 <|
               k13 <|
               zz 97 (xeF hc14) <|
               ee) (by kernel_rfl)
            ·rw[if_neg hc13] at h
             obtain rfl:=oI h
             exact runF2 hm ⟨[2],[],0,0,[],false,[],[],[]⟩ (k0 <|
              k1 <|
              k2 <|
              k3 <|
              k4 <|
              k5 <|
              k6 <|
              k7 <|
              k8 <|
              k9 <|
              k10 <|
              yy 92 (vt) <|
              ww (p:=(Value.bool (!c12_))=(Value.bool true)) (vBn (Bool.eq_false_iff.2 hc13)) <|
              ee) (by kernel_rfl)
        ·rw[if_neg hc8] at h
         have k7:=fun {A L l} (k:PL A L l)=>zz 45 (xeF hc8) <|
          k
         by_cases hc9:a3=a2
         ·rw[if_pos hc9] at h
          have k8:=fun {A L l} (k:PL A L l)=>zz 73 (xnF hc9) <|
           k
          by_cases hc10:a1=4
          ·rw[if_pos hc10] at h
           have k9:=fun {A L l} (k:PL A L l)=>zz 80 (xnF hc10) <|
            k
           by_cases hc11:a2=a4
           ·rw[if_pos hc11] at h
            obtain⟨c12_,hc12,h⟩:=oB h
            have k10:=fun {A L l} (k:PL A L l)=>zz 86 (xeT hc11) <|
             yy 91 (.call (qbe_ a1 c12_ [] [])) <|
             ww (qv_ n a1 c12_ hc12) <|
             k
            by_cases hc13:c12_=true
            ·rw[if_pos hc13] at h
             have k13:=fun {A L l} (k:PL A L l)=>yy 92 (vf) <|
              ww (p:=(Value.bool (!c12_))=(Value.bool false)) (vBn hc13) <|
              k
             by_cases hc14:(((a6).l.length:Nat):Int)=0
             ·rw[if_pos hc14] at h
              obtain rfl:=oI h
              exact runF2 hm ⟨[2],[],0,0,[],false,[],[],[]⟩ (k0 <|
               k1 <|
               k2 <|
               k3 <|
               k4 <|
               k5 <|
               k6 <|
               k7 <|
               k8 <|
               k9 <|
               k10 <|
               k13 <|
               zz 97 (xeT hc14) <|
               ee) (by kernel_rfl)
             ·rw[if_neg hc14] at h
              obtain rfl:=oI h
              exact runF2 hm ⟨[2],[],0,0,[],false,[],[],[]⟩ (k0 <|
               k1 <|
               k2 <|
               k3 <|
               k4 <|
               k5 <|
               k6 <|
               k7 <|
               k8 <|
               k9 <|
               k10 <|
               k13 <|
               zz 97 (xeF hc14) <|
               ee) (by kernel_rfl)
            ·rw[if_neg hc13] at h
             obtain rfl:=oI h
             exact runF2 hm ⟨[2],[],0,0,[],false,[],[],[]⟩ (k0 <|
              k1 <|
              k2 <|
              k3 <|
              k4 <|
              k5 <|
              k6 <|
              k7 <|
              k8 <|
              k9 <|
              k10 <|
              yy 92 (vt) <|
              ww (p:=(Value.bool (!c12_))=(Value.bool true)) (vBn (Bool.eq_false_iff.2 hc13)) <|
              ee) (by kernel_rfl)
           ·rw[if_neg hc11] at h
            obtain rfl:=oI h
            exact runF2 hm ⟨[2],[],0,0,[],false,[],[],[]⟩ (k0 <|
             k1 <|
             k2 <|
             k3 <|
             k4 <|
             k5 <|
             k6 <|
             k7 <|
             k8 <|
             k9 <|
             zz 86 (xeF hc11) <|
             ee) (by kernel_rfl)
          ·rw[if_neg hc10] at h
           obtain⟨c11_,hc11,h⟩:=oB h
           have k9:=fun {A L l} (k:PL A L l)=>zz 80 (xnT hc10) <|
            yy 91 (.call (qbe_ a1 c11_ [] [])) <|
            ww (qv_ n a1 c11_ hc11) <|
            k
           by_cases hc12:c11_=true
           ·rw[if_pos hc12] at h
            have k12:=fun {A L l} (k:PL A L l)=>yy 92 (vf) <|
             ww (p:=(Value.bool (!c11_))=(Value.bool false)) (vBn hc12) <|
             k
            by_cases hc13:(((a6).l.length:Nat):Int)=0
            ·rw[if_pos hc13] at h
             obtain rfl:=oI h
             exact runF2 hm ⟨[2],[],0,0,[],false,[],[],[]⟩ (k0 <|
              k1 <|
              k2 <|
              k3 <|
              k4 <|
              k5 <|
              k6 <|
              k7 <|
              k8 <|
              k9 <|
              k12 <|
              zz 97 (xeT hc13) <|
              ee) (by kernel_rfl)
            ·rw[if_neg hc13] at h
             obtain rfl:=oI h
             exact runF2 hm ⟨[2],[],0,0,[],false,[],[],[]⟩ (k0 <|
              k1 <|
              k2 <|
              k3 <|
              k4 <|
              k5 <|
              k6 <|
              k7 <|
              k8 <|
              k9 <|
              k12 <|
              zz 97 (xeF hc13) <|
              ee) (by kernel_rfl)
           ·rw[if_neg hc12] at h
            obtain rfl:=oI h
            exact runF2 hm ⟨[2],[],0,0,[],false,[],[],[]⟩ (k0 <|
             k1 <|
             k2 <|
             k3 <|
             k4 <|
             k5 <|
             k6 <|
             k7 <|
             k8 <|
             k9 <|
             yy 92 (vt) <|
             ww (p:=(Value.bool (!c11_))=(Value.bool true)) (vBn (Bool.eq_false_iff.2 hc12)) <|
             ee) (by kernel_rfl)
         ·rw[if_neg hc9] at h
          obtain rfl:=oI h
          exact runF2 hm ⟨[2],[],0,0,[],false,[],[],[]⟩ (k0 <|
           k1 <|
           k2 <|
           k3 <|
           k4 <|
           k5 <|
           k6 <|
           k7 <|
           zz 73 (xnT hc9) <|
           ee) (by kernel_rfl)

def qcr_ (a0:WL rw_iiiiiiLu)(a1:Int):List Value:=[(wlV a0),(i6 a1)]
def qcs_ (a0:WL rw_iiiiiiLu)(a1:Int):AH:=⟨sB [],0,0⟩
def qb1_ (a0:WL rw_iiiiiiLu)(a1 r:Int):Value:=match r with
 | o0=>(i6 o0)
def qb2_ (a0:WL rw_iiiiiiLu)(a1 r:Int):AH:=match r with
 | o0=>⟨sB [],0,0⟩
abbrev G_viewportref16endq1 (a0:WL rw_iiiiiiLu)(a1 r:Int):Prop:=Gv P (.func 16) (qcr_ a0 a1) (qcs_ a0 a1) (qb1_ a0 a1 r) (qb2_ a0 a1 r)
abbrev qkh_ (a0:WL rw_iiiiiiLu)(a1 r:Int)(ins outs:BL):CallA:=⟨0,ins,qb1_ a0 a1 r,qb2_ a0 a1 r,outs⟩
def qb8_ (x0:WL rw_iiiiiiLu)(x1:Int)(st:Int×Int×Int):XSt:=match st with
 | (x2,x3,x4)=>(sT 68 [(0,(wlV x0)),(1,(i6 x1)),(5,(i6 x2)),(6,(i6 x3)),(7,(i6 x4))],[],⟨sB [],0,0⟩)
def q1_ (x0:WL rw_iiiiiiLu)(x1:Int)(r:(Unit) ⊕ (Int×Int)):Ex×XSt:=match r with
 | .inl _=>(.ret,(sT 68 [(4,(i6 (-1:Int)))],[],⟨sB [],0,0⟩))
 | .inr (z0,z1)=>(.exit 0,(sT 68 [(0,(wlV x0)),(1,(i6 x1)),(5,(i6 z0)),(6,(i6 z1))],[],⟨sB [],0,0⟩))
abbrev Q_viewportref16endq1_1 (rnd:Option Nat)(x0:WL rw_iiiiiiLu)(x1:Int)(st:Int×Int×Int)(c:Ex×XSt):Prop:=CG P rnd (fnN P 16) 0 (qo_ P 16 [false,false,true,false,true,true]) (qb8_ x0 x1 st) c
abbrev qiu_ (rd:Option Nat)(x0:WL rw_iiiiiiLu)(x1:Int)(st:Int×Int×Int)(r:(Unit) ⊕ (Int×Int)):Prop:=CG P rd (fnN P 16) 0 (qo_ P 16 [false,true,false,true,true]) (qb8_ x0 x1 st) (q1_ x0 x1 r)
def qh_ (rec_viewportref16endq1:(WL rw_iiiiiiLu)→(Int)→Option (Int))(n:Nat)(x0:WL rw_iiiiiiLu)(x1:Int)(st:Int×Int×Int):Option ((Int×Int×Int) ⊕ ((Unit) ⊕ (Int×Int))):=match st with
 | (x2,x3,x4)=>
  if 0≤x1∧x1<(((x0).l.length:Nat):Int) then
   ((some (((x0).l).getD (x1).toNat (0,0,0,0,0,0,nl0,0)))).bind fun y2_=>
   if x4<((((y2_.2.2.2.2.2.2.1)).l.length:Nat):Int) then
    if 0≤x4∧x4<((((y2_.2.2.2.2.2.2.1)).l.length:Nat):Int) then
     if (x4).toNat<(((y2_.2.2.2.2.2.2.1)).l).length then
      ((some ((((y2_.2.2.2.2.2.2.1)).l).getD (x4).toNat 0))).bind fun y6_=>
      if y6_=x2 then
       if x2 ≥ (((x0).l.length:Nat):Int) then
        some (.inr (.inl ()))
       else
        if 0≤x2∧x2<(((x0).l.length:Nat):Int) then
         ((some (((x0).l).getD (x2).toNat (0,0,0,0,0,0,nl0,0)))).bind fun y10_=>
         if (y10_.2.2.1)<x3 then
          some (.inr (.inl ()))
         else
          (rec_viewportref16endq1 x0 x2).bind fun y12_=>
          if y12_<0 then
           some (.inr (.inl ()))
          else
           some (.inl (y12_,(y10_.2.2.2.2.1),(w64 (x4+1))))
        else none
      else
       some (.inr (.inl ()))
     else none
    else none
   else
    some (.inr (.inr (x2,x3)))
  else none
def qcz_ (rec_viewportref16endq1:(WL rw_iiiiiiLu)→(Int)→Option (Int))(n:Nat)(x0:WL rw_iiiiiiLu)(x1:Int)(st:Int×Int×Int):Option ((Unit) ⊕ (Int×Int)):=iterM (qh_ rec_viewportref16endq1 n x0 x1) n st
theorem qiv_ (rec_viewportref16endq1:(WL rw_iiiiiiLu)→(Int)→Option (Int))(hrec_viewportref16endq1:∀ (a0:WL rw_iiiiiiLu) (a1:Int) (r:Int),rec_viewportref16endq1 a0 a1=some r→Gv P (.func 16) (qcr_ a0 a1) (qcs_ a0 a1) (qb1_ a0 a1 r) (qb2_ a0 a1 r))(n:Nat){rnd:Option Nat}(x0:WL rw_iiiiiiLu)(x1:Int)(st:Int×Int×Int)(o:(Int×Int×Int) ⊕ ((Unit) ⊕ (Int×Int)))(h:qh_ rec_viewportref16endq1 n x0 x1 st=some o):CG P rnd (fnN P 16) 0 (qo_ P 16 [false,false,true,false,true,true]) (qb8_ x0 x1 st) (Sum.elim (fun s=>(.normal,qb8_ x0 x1 s)) (fun r=>q1_ x0 x1 r) o):=by
 obtain⟨x2,x3,x4⟩:=st
 unfold qh_ at h
 dsimp only at h
 obtain⟨hy1,h⟩:=gd h
 obtain⟨y2_,hy2,h⟩:=oB h
 have k0:=fun {A L l} (k:PL A L l)=>zz 5 (xk1 (x0).num (x0).off (x0).cap hy1) <|
  zz 6 (fk7 (x0).num (Nat.add (x0).off ((x1).toNat*8))) <|
  zz 7 (lk8 hy2 (qex_ hy1)) <|
  k
 by_cases hy3:x4<((((y2_.2.2.2.2.2.2.1)).l.length:Nat):Int)
 ·rw[if_pos hy3] at h
  obtain⟨hy4,h⟩:=gd h
  obtain⟨hy5,h⟩:=gd h
  obtain⟨y6_,hy6,h⟩:=oB h
  have k3:=fun {A L l} (k:PL A L l)=>zz 9 (xdT hy3) <|
   zz 17 (xk1 (x0).num (x0).off (x0).cap hy1) <|
   zz 18 (fk7 (x0).num (Nat.add (x0).off ((x1).toNat*8))) <|
   zz 19 (lk8 hy2 (qex_ hy1)) <|
   zz 21 (xk9 (Nat.add ((y2_.2.2.2.2.2.2.1)).num 64) ((y2_.2.2.2.2.2.2.1)).off ((y2_.2.2.2.2.2.2.1)).cap hy4) <|
   zz 22 (nk10 hy6 hy5) <|
   k
  by_cases hy7:y6_=x2
  ·rw[if_pos hy7] at h
   have k9:=fun {A L l} (k:PL A L l)=>zz 24 (xnF hy7) <|
    k
   by_cases hy8:x2 ≥ (((x0).l.length:Nat):Int)
   ·rw[if_pos hy8] at h
    obtain rfl:=oI h
    exact runC2 hm ⟨[4],[],0,0,[],false,[],[],[]⟩ (k0 <|
     k3 <|
     k9 <|
     zz 29 (xdT hy8) <|
     ee) (by kernel_rfl)
   ·rw[if_neg hy8] at h
    obtain⟨hy9,h⟩:=gd h
    obtain⟨y10_,hy10,h⟩:=oB h
    have k10:=fun {A L l} (k:PL A L l)=>zz 29 (xdF hy8) <|
     zz 34 (xk1 (x0).num (x0).off (x0).cap hy9) <|
     zz 35 (fk5 (x0).num (Nat.add (x0).off ((x2).toNat*8))) <|
     zz 36 (lk6 hy10 (qex_ hy9)) <|
     k
    by_cases hy11:(y10_.2.2.1)<x3
    ·rw[if_pos hy11] at h
     obtain rfl:=oI h
     exact runC2 hm ⟨[4],[],0,0,[],false,[],[],[]⟩ (k0 <|
      k3 <|
      k9 <|
      k10 <|
      zz 38 (xdT hy11) <|
      ee) (by kernel_rfl)
    ·rw[if_neg hy11] at h
     obtain⟨y12_,hy12,h⟩:=oB h
     have k14:=fun {A L l} (k:PL A L l)=>zz 38 (xdF hy11) <|
      zz 44 (xk1 (x0).num (x0).off (x0).cap hy9) <|
      zz 45 (fk11 (x0).num (Nat.add (x0).off ((x2).toNat*8))) <|
      zz 46 (lk12 hy10 (qex_ hy9)) <|
      yy 51 (.call (qkh_ x0 x2 y12_ [] [])) <|
      ww (hrec_viewportref16endq1 x0 x2 y12_ hy12) <|
      k
     by_cases hy13:y12_<0
     ·rw[if_pos hy13] at h
      obtain rfl:=oI h
      exact runC2 hm ⟨[4],[],0,0,[],false,[],[],[]⟩ (k0 <|
       k3 <|
       k9 <|
       k10 <|
       k14 <|
       zz 55 (xdT hy13) <|
       ee) (by kernel_rfl)
     ·rw[if_neg hy13] at h
      obtain rfl:=oI h
      exact runC2 hm ⟨[0,1,5,6,7],[],0,0,[],false,[],[],[]⟩ (k0 <|
       k3 <|
       k9 <|
       k10 <|
       k14 <|
       zz 55 (xdF hy13) <|
       ee) (by kernel_rfl)
  ·rw[if_neg hy7] at h
   obtain rfl:=oI h
   exact runC2 hm ⟨[4],[],0,0,[],false,[],[],[]⟩ (k0 <|
    k3 <|
    zz 24 (xnT hy7) <|
    ee) (by kernel_rfl)
 ·rw[if_neg hy3] at h
  obtain rfl:=oI h
  exact runC2 hm ⟨[0,1,5,6],[],0,0,[],false,[],[],[]⟩ (k0 <|
   zz 9 (xdF hy3) <|
   ee) (by kernel_rfl)
theorem qg8_ (rec_viewportref16endq1:(WL rw_iiiiiiLu)→(Int)→Option (Int))(hrec_viewportref16endq1:∀ (a0:WL rw_iiiiiiLu) (a1:Int) (r:Int),rec_viewportref16endq1 a0 a1=some r→Gv P (.func 16) (qcr_ a0 a1) (qcs_ a0 a1) (qb1_ a0 a1 r) (qb2_ a0 a1 r))(n:Nat){rnd:Option Nat}(x0:WL rw_iiiiiiLu)(x1:Int)(st:Int×Int×Int)(r:(Unit) ⊕ (Int×Int))(h:qcz_ rec_viewportref16endq1 n x0 x1 st=some r):CG P rnd (fnN P 16) 0 (qo_ P 16 [false,true,false,true,true]) (qb8_ x0 x1 st) (q1_ x0 x1 r):=
 CG.iter (b:=qo_ P 16 [false,false,true,false,true,true]) (by kernel_rfl) (body:=qh_ rec_viewportref16endq1 n x0 x1) (S:=qb8_ x0 x1) (X:=q1_ x0 x1)
  (fun s s' h=>qiv_ rec_viewportref16endq1 hrec_viewportref16endq1 n x0 x1 s (.inl s') h)
  (fun s r h=>qiv_ rec_viewportref16endq1 hrec_viewportref16endq1 n x0 x1 s (.inr r) h)
  (fun r=>by intro hx; rcases r with _ | _<;>cases hx) h
def qb3_ (rec_viewportref16endq1:(WL rw_iiiiiiLu)→(Int)→Option (Int))(n:Nat)(a0:WL rw_iiiiiiLu)(a1:Int):Option (Int):=
 if 0≤a1∧a1<(((a0).l.length:Nat):Int) then
  ((some (((a0).l).getD (a1).toNat (0,0,0,0,0,0,nl0,0)))).bind fun c2_=>
  match qcz_ rec_viewportref16endq1 n a0 a1 ((w64 (a1+1)),(c2_.2.2.1),0) with
  | none=>none
  | some (.inl _)=>
   some (-1)
  | some (.inr (c3_0,c3_1))=>
   if c3_1 > (c2_.2.2.2.2.1) then
    some (-1)
   else
    some c3_0
 else none
theorem qm0_ (rec_viewportref16endq1:(WL rw_iiiiiiLu)→(Int)→Option (Int))(hrec_viewportref16endq1:∀ (a0:WL rw_iiiiiiLu) (a1:Int) (r:Int),rec_viewportref16endq1 a0 a1=some r→Gv P (.func 16) (qcr_ a0 a1) (qcs_ a0 a1) (qb1_ a0 a1 r) (qb2_ a0 a1 r))(n:Nat)(a0:WL rw_iiiiiiLu)(a1 r:Int)(h:qb3_ rec_viewportref16endq1 n a0 a1=some r):Gv P (.func 16) (qcr_ a0 a1) (qcs_ a0 a1) (qb1_ a0 a1 r) (qb2_ a0 a1 r):=by
 unfold qb3_ at h
 obtain⟨hc1,h⟩:=gd h
 obtain⟨c2_,hc2,h⟩:=oB h
 have k0:=fun {A L l} (k:PL A L l)=>zz 7 (xk1 (a0).num (a0).off (a0).cap hc1) <|
  zz 8 (fk5 (a0).num (Nat.add (a0).off ((a1).toNat*8))) <|
  zz 9 (lk6 hc2 (qex_ hc1)) <|
  k
 rcases hc3:qcz_ rec_viewportref16endq1 n a0 a1 ((w64 (a1+1)),(c2_.2.2.1),0) with _ | (⟨⟩ | ⟨c3_0,c3_1⟩)
 ·rw[hc3] at h; cases h
 ·rw[hc3] at h
  dsimp only at h
  obtain rfl:=oI h
  exact runF2 hm ⟨[4],[],0,0,[],false,[],[],[]⟩ (k0 <|
   ww (p:=qiu_ none a0 a1 ((w64 (a1+1)),(c2_.2.2.1),0) (.inl ())) (qg8_ rec_viewportref16endq1 hrec_viewportref16endq1 n a0 a1 ((w64 (a1+1)),(c2_.2.2.1),0) (.inl ()) hc3) <|
   ll 16 ⟨⟨[0,1,5,6,7],[],0,0,[],false,[],[],[]⟩,(q1_ a0 a1 (.inl ())).1,(q1_ a0 a1 (.inl ())).2⟩ <|
   ee) (by kernel_rfl)
 ·rw[hc3] at h
  dsimp only at h
  have k3:=fun {A L l} (k:PL A L l)=>ww (p:=qiu_ none a0 a1 ((w64 (a1+1)),(c2_.2.2.1),0) (.inr (c3_0,c3_1))) (qg8_ rec_viewportref16endq1 hrec_viewportref16endq1 n a0 a1 ((w64 (a1+1)),(c2_.2.2.1),0) (.inr (c3_0,c3_1)) hc3) <|
   ll 16 ⟨⟨[0,1,5,6,7],[],0,0,[],false,[],[],[]⟩,(q1_ a0 a1 (.inr (c3_0,c3_1))).1,(q1_ a0 a1 (.inr (c3_0,c3_1))).2⟩ <|
   zz 22 (xk1 (a0).num (a0).off (a0).cap hc1) <|
   zz 23 (fk11 (a0).num (Nat.add (a0).off ((a1).toNat*8))) <|
   zz 24 (lk12 hc2 (qex_ hc1)) <|
   k
  by_cases hc4:c3_1 > (c2_.2.2.2.2.1)
  ·rw[if_pos hc4] at h
   obtain rfl:=oI h
   exact runF2 hm ⟨[4],[],0,0,[],false,[],[],[]⟩ (k0 <|
    k3 <|
    zz 25 (xdT hc4) <|
    ee) (by kernel_rfl)
  ·rw[if_neg hc4] at h
   obtain rfl:=oI h
   exact runF2 hm ⟨[4],[],0,0,[],false,[],[],[]⟩ (k0 <|
    k3 <|
    zz 25 (xdF hc4) <|
    ee) (by kernel_rfl)
def qe_:Nat→(WL rw_iiiiiiLu)→(Int)→Option (Int)
 | 0=>fun _ _=>none
 | n+1=>fun a0 a1=>qb3_ (qe_ n) n a0 a1
theorem qh9_:∀ (n:Nat) (a0:WL rw_iiiiiiLu) (a1:Int) (r:Int) (h:qe_ n a0 a1=some r),Gv P (.func 16) (qcr_ a0 a1) (qcs_ a0 a1) (qb1_ a0 a1 r) (qb2_ a0 a1 r)
 | 0,_,_,_,h=>nomatch h
 | n+1,a0,a1,r,h=>qm0_ (qe_ n) (qh9_ n) n a0 a1 r h

def qiw_ (a0:WL rw_iiiiiiLu):List Value:=[(wlV a0)]
def qix_ (a0:WL rw_iiiiiiLu):AH:=⟨sB [],0,0⟩
def qfb_ (a0:WL rw_iiiiiiLu)(r:Int):Value:=match r with
 | o0=>(i6 o0)
def qfc_ (a0:WL rw_iiiiiiLu)(r:Int):AH:=match r with
 | o0=>⟨sB [],0,0⟩
abbrev G_viewportref16Checkq1 (a0:WL rw_iiiiiiLu)(r:Int):Prop:=Gv P (.func 6) (qiw_ a0) (qix_ a0) (qfb_ a0 r) (qfc_ a0 r)
abbrev qiy_ (a0:WL rw_iiiiiiLu)(r:Int)(ins outs:BL):CallA:=⟨0,ins,qfb_ a0 r,qfc_ a0 r,outs⟩
def qce_ (x0:WL rw_iiiiiiLu)(st:Int):XSt:=match st with
 | x1=>(sT 41 [(0,(wlV x0)),(3,(i6 x1))],[],⟨sB [],0,0⟩)
def q6_ (x0:WL rw_iiiiiiLu)(r:(Unit) ⊕ (Unit)):Ex×XSt:=match r with
 | .inl _=>(.ret,(sT 41 [(2,(i6 (2:Int)))],[],⟨sB [],0,0⟩))
 | .inr _=>(.exit 0,(sT 41 [(0,(wlV x0))],[],⟨sB [],0,0⟩))
abbrev qwa_ (rnd:Option Nat)(x0:WL rw_iiiiiiLu)(st:Int)(c:Ex×XSt):Prop:=CG P rnd (fnN P 6) 0 (qo_ P 6 [false,false,true,false,true,true]) (qce_ x0 st) c
def qw_ (n:Nat)(x0:WL rw_iiiiiiLu)(st:Int):Option ((Int) ⊕ ((Unit) ⊕ (Unit))):=match st with
 | x1=>
  if x1<(((x0).l.length:Nat):Int) then
   if 0≤x1∧x1<(((x0).l.length:Nat):Int) then
    ((some (((x0).l).getD (x1).toNat (0,0,0,0,0,0,nl0,0)))).bind fun y3_=>
    (qp_ n (y3_.1) (y3_.2.1) (y3_.2.2.1) (y3_.2.2.2.1) (y3_.2.2.2.2.1) (y3_.2.2.2.2.2.1) (y3_.2.2.2.2.2.2.1) (y3_.2.2.2.2.2.2.2)).bind fun y4_=>
    if y4_=true then
     if x1 > 0 then
      if (y3_.2.1)=1 then
       some (.inr (.inl ()))
      else
       some (.inl (w64 (x1+1)))
     else
      some (.inl (w64 (x1+1)))
    else
     some (.inr (.inl ()))
   else none
  else
   some (.inr (.inr ()))
def qdd_ (n:Nat)(x0:WL rw_iiiiiiLu)(st:Int):Option ((Unit) ⊕ (Unit)):=iterM (qw_ n x0) n st
theorem qht_ (n:Nat){rnd:Option Nat}(x0:WL rw_iiiiiiLu)(x1:Int)(o:(Int) ⊕ ((Unit) ⊕ (Unit)))(h:qw_ n x0 x1=some o):CG P rnd (fnN P 6) 0 (qo_ P 6 [false,false,true,false,true,true]) (qce_ x0 x1) (Sum.elim (fun s=>(.normal,qce_ x0 s)) (fun r=>q6_ x0 r) o):=by
 unfold qw_ at h
 dsimp only at h
 by_cases hy1:x1<(((x0).l.length:Nat):Int)
 ·rw[if_pos hy1] at h
  obtain⟨hy2,h⟩:=gd h
  obtain⟨y3_,hy3,h⟩:=oB h
  obtain⟨y4_,hy4,h⟩:=oB h
  have k0:=fun {A L l} (k:PL A L l)=>zz 5 (xdT hy1) <|
   zz 12 (xk1 (x0).num (x0).off (x0).cap hy2) <|
   zz 13 (lk2 hy3 (qex_ hy2)) <|
   yy 14 (.call (qjj_ (y3_.1) (y3_.2.1) (y3_.2.2.1) (y3_.2.2.2.1) (y3_.2.2.2.2.1) (y3_.2.2.2.2.2.1) (y3_.2.2.2.2.2.2.1) (y3_.2.2.2.2.2.2.2) y4_ [] [])) <|
   ww (qhs_ n (y3_.1) (y3_.2.1) (y3_.2.2.1) (y3_.2.2.2.1) (y3_.2.2.2.2.1) (y3_.2.2.2.2.2.1) (y3_.2.2.2.2.2.2.1) (y3_.2.2.2.2.2.2.2) y4_ hy4) <|
   k
  by_cases hy5:y4_=true
  ·rw[if_pos hy5] at h
   have k5:=fun {A L l} (k:PL A L l)=>yy 15 (vf) <|
    ww (p:=(Value.bool (!y4_))=(Value.bool false)) (vBn hy5) <|
    k
   by_cases hy6:x1 > 0
   ·rw[if_pos hy6] at h
    have k7:=fun {A L l} (k:PL A L l)=>zz 18 (xdT hy6) <|
     zz 22 (xk1 (x0).num (x0).off (x0).cap hy2) <|
     zz 23 (fk3 (x0).num (Nat.add (x0).off ((x1).toNat*8))) <|
     zz 24 (lk4 hy3 (qex_ hy2)) <|
     k
    by_cases hy7:(y3_.2.1)=1
    ·rw[if_pos hy7] at h
     obtain rfl:=oI h
     exact runC2 hm ⟨[2],[],0,0,[],false,[],[],[]⟩ (k0 <|
      k5 <|
      k7 <|
      zz 25 (xeT hy7) <|
      ee) (by kernel_rfl)
    ·rw[if_neg hy7] at h
     obtain rfl:=oI h
     exact runC2 hm ⟨[0,3],[],0,0,[],false,[],[],[]⟩ (k0 <|
      k5 <|
      k7 <|
      zz 25 (xeF hy7) <|
      ee) (by kernel_rfl)
   ·rw[if_neg hy6] at h
    obtain rfl:=oI h
    exact runC2 hm ⟨[0,3],[],0,0,[],false,[],[],[]⟩ (k0 <|
     k5 <|
     zz 18 (xdF hy6) <|
     ee) (by kernel_rfl)
  ·rw[if_neg hy5] at h
   obtain rfl:=oI h
   exact runC2 hm ⟨[2],[],0,0,[],false,[],[],[]⟩ (k0 <|
    yy 15 (vt) <|
    ww (p:=(Value.bool (!y4_))=(Value.bool true)) (vBn (Bool.eq_false_iff.2 hy5)) <|
    ee) (by kernel_rfl)
 ·rw[if_neg hy1] at h
  obtain rfl:=oI h
  exact runC2 hm ⟨[0],[],0,0,[],false,[],[],[]⟩ (zz 5 (xdF hy1) <|
   ee) (by kernel_rfl)
theorem qf6_ (n:Nat){rnd:Option Nat}(x0:WL rw_iiiiiiLu)(st:Int)(r:(Unit) ⊕ (Unit))(h:qdd_ n x0 st=some r):CG P rnd (fnN P 6) 0 (qo_ P 6 [false,true,false,true,true]) (qce_ x0 st) (q6_ x0 r):=
 CG.iter (b:=qo_ P 6 [false,false,true,false,true,true]) (by kernel_rfl) (body:=qw_ n x0) (S:=qce_ x0) (X:=q6_ x0)
  (fun s s' h=>qht_ n x0 s (.inl s') h)
  (fun s r h=>qht_ n x0 s (.inr r) h)
  (fun r=>by intro hx; rcases r with _ | _<;>cases hx) h
def q2_ (n:Nat)(a0:WL rw_iiiiiiLu):Option (Int):=
 if (((a0).l.length:Nat):Int) > 524288 then
  some 3
 else
  match qdd_ n a0 0 with
  | none=>none
  | some (.inl _)=>
   some 2
  | some (.inr _)=>
   if (((a0).l.length:Nat):Int)=0 then
    some 2
   else
    (qe_ n a0 0).bind fun c4_=>
    if c4_=(((a0).l.length:Nat):Int) then
     some 0
    else
     some 2
theorem qg9_ (n:Nat)(a0:WL rw_iiiiiiLu)(r:Int)(h:q2_ n a0=some r):Gv P (.func 6) (qiw_ a0) (qix_ a0) (qfb_ a0 r) (qfc_ a0 r):=by
 unfold q2_ at h
 by_cases hc1:(((a0).l.length:Nat):Int) > 524288
 ·rw[if_pos hc1] at h
  obtain rfl:=oI h
  exact runF2 hm ⟨[2],[],0,0,[],false,[],[],[]⟩ (zz 6 (xdT hc1) <|
   ee) (by kernel_rfl)
 ·rw[if_neg hc1] at h
  have k0:=fun {A L l} (k:PL A L l)=>zz 6 (xdF hc1) <|
   k
  rcases hc2:qdd_ n a0 0 with _ | (⟨⟩ | ⟨⟩)
  ·rw[hc2] at h; cases h
  ·rw[hc2] at h
   dsimp only at h
   obtain rfl:=oI h
   exact runF2 hm ⟨[2],[],0,0,[],false,[],[],[]⟩ (k0 <|
    ww (qf6_ n (rnd:=none) a0 0 (.inl ()) hc2) <|
    ll 12 ⟨⟨[0,3],[],0,0,[],false,[],[],[]⟩,(q6_ a0 (.inl ())).1,(q6_ a0 (.inl ())).2⟩ <|
    ee) (by kernel_rfl)
  ·rw[hc2] at h
   dsimp only at h
   have k1:=fun {A L l} (k:PL A L l)=>ww (qf6_ n (rnd:=none) a0 0 (.inr ()) hc2) <|
    ll 12 ⟨⟨[0,3],[],0,0,[],false,[],[],[]⟩,(q6_ a0 (.inr ())).1,(q6_ a0 (.inr ())).2⟩ <|
    k
   by_cases hc3:(((a0).l.length:Nat):Int)=0
   ·rw[if_pos hc3] at h
    obtain rfl:=oI h
    exact runF2 hm ⟨[2],[],0,0,[],false,[],[],[]⟩ (k0 <|
     k1 <|
     zz 17 (xeT hc3) <|
     ee) (by kernel_rfl)
   ·rw[if_neg hc3] at h
    obtain⟨c4_,hc4,h⟩:=oB h
    have k3:=fun {A L l} (k:PL A L l)=>zz 17 (xeF hc3) <|
     yy 20 (.call (qkh_ a0 0 c4_ [] [])) <|
     ww (qh9_ n a0 0 c4_ hc4) <|
     k
    by_cases hc5:c4_=(((a0).l.length:Nat):Int)
    ·rw[if_pos hc5] at h
     obtain rfl:=oI h
     exact runF2 hm ⟨[2],[],0,0,[],false,[],[],[]⟩ (k0 <|
      k1 <|
      k3 <|
      zz 23 (xnF hc5) <|
      ee) (by kernel_rfl)
    ·rw[if_neg hc5] at h
     obtain rfl:=oI h
     exact runF2 hm ⟨[2],[],0,0,[],false,[],[],[]⟩ (k0 <|
      k1 <|
      k3 <|
      zz 23 (xnT hc5) <|
      ee) (by kernel_rfl)

def qiz_ (a0:WL rw_iiiiiiLu)(a1:Int):List Value:=[(wlV a0),(i6 a1)]
def qi0_ (a0:WL rw_iiiiiiLu)(a1:Int):AH:=⟨sB [],0,0⟩
def qfd_ (a0:WL rw_iiiiiiLu)(a1:Int)(r:List R8):Value:=match r with
 | o0=>(slR o0 0 8)
def qfe_ (a0:WL rw_iiiiiiLu)(a1:Int)(r:List R8):AH:=match r with
 | o0=>⟨sB [(0,(nblkR rw_iiiiiiLu o0 35))],1,0⟩
abbrev G_viewportref16movedq1 (a0:WL rw_iiiiiiLu)(a1:Int)(r:List R8):Prop:=Gv P (.func 34) (qiz_ a0 a1) (qi0_ a0 a1) (qfd_ a0 a1 r) (qfe_ a0 a1 r)
abbrev qi1_ (a0:WL rw_iiiiiiLu)(a1:Int)(r:List R8)(ins outs:BL):CallA:=⟨0,ins,qfd_ a0 a1 r,qfe_ a0 a1 r,outs⟩
def qcf_ (x0:WL rw_iiiiiiLu)(x1 x3 x4 x5 x6 x7 x8 x9 x11:Int)(st:List R8×List Int×Int):XSt:=match st with
 | (x2,x10,x12)=>(sT 50 [(0,(wlV x0)),(1,(i6 x1)),(5,(slR x2 0 8)),(6,(i6 x3)),(7,(pN 1 0)),(8,(i6 x12))],[],⟨sB [(0,(nblkR rw_iiiiiiLu x2 35)),(1,(some (.cells (layT [(i6 x4),(i6 x5),(i6 x6),(i6 x7),(i6 x8),(i6 x9),(slN x10 2),(Value.int .u64 x11)]) 35))),(2,(nblk x10 3))],3,0⟩)
def qf_ (x0:WL rw_iiiiiiLu)(x1 x3 x4 x5 x6 x7 x8 x9 x11:Int)(r:List R8×NL):Ex×XSt:=match r with
 | (z0,z1)=>(.exit 2,(sT 50 [(0,(wlV x0)),(1,(i6 x1)),(5,(slR z0 0 8)),(6,(i6 x3)),(7,(pN 1 0))],[],⟨sB [(0,(nblkR rw_iiiiiiLu z0 35)),(1,(some (.cells (layT [(i6 x4),(i6 x5),(i6 x6),(i6 x7),(i6 x8),(i6 x9),(nlV z1),(Value.int .u64 x11)]) 35)))],2,0⟩))
abbrev qwb_ (rnd:Option Nat)(x0:WL rw_iiiiiiLu)(x1 x3 x4 x5 x6 x7 x8 x9 x11:Int)(st:List R8×List Int×Int)(c:Ex×XSt):Prop:=CG P rnd (fnN P 34) 0 (qo_ P 34 [false,false,true,false,true,true,false,false,true,false,false,true,false,true,true]) (qcf_ x0 x1 x3 x4 x5 x6 x7 x8 x9 x11 st) c
def q7_ (n:Nat)(x0:WL rw_iiiiiiLu)(x1 x3 x4 x5 x6 x7 x8 x9 x11:Int)(st:List R8×List Int×Int):Option ((List R8×List Int×Int) ⊕ (List R8×NL)):=match st with
 | (x2,x10,x12)=>
  match x2 with
  | []=>
   match x10 with
   | []=>
    if 0≤x3∧x3<(((x0).l.length:Nat):Int) then
     ((some (((x0).l).getD (x3).toNat (0,0,0,0,0,0,nl0,0)))).bind fun y2_=>
     if x12<((((y2_.2.2.2.2.2.2.1)).l.length:Nat):Int) then
      if 0≤x12∧x12<((((y2_.2.2.2.2.2.2.1)).l.length:Nat):Int) then
       if (x12).toNat<(((y2_.2.2.2.2.2.2.1)).l).length then
        ((some ((((y2_.2.2.2.2.2.2.1)).l).getD (x12).toNat 0))).bind fun y6_=>
        some (.inl (([]:List R8),[(w64 (y6_+x1))],(w64 (x12+1))))
       else none
      else none
     else
      some (.inr (([]:List R8),nl0))
    else none
   | x10a::x10t=>
    if 0≤x3∧x3<(((x0).l.length:Nat):Int) then
     ((some (((x0).l).getD (x3).toNat (0,0,0,0,0,0,nl0,0)))).bind fun y2_=>
     if x12<((((y2_.2.2.2.2.2.2.1)).l.length:Nat):Int) then
      if 0≤x12∧x12<((((y2_.2.2.2.2.2.2.1)).l.length:Nat):Int) then
       if (x12).toNat<(((y2_.2.2.2.2.2.2.1)).l).length then
        ((some ((((y2_.2.2.2.2.2.2.1)).l).getD (x12).toNat 0))).bind fun y6_=>
        if (((x10a::x10t)).length+1)*8≤140737488355328 then
         some (.inl (([]:List R8),((x10a::x10t) ++ [(w64 (y6_+x1))]),(w64 (x12+1))))
        else none
       else none
      else none
     else
      if hy4:(x10a::x10t).length≤140737488355328 then
       some (.inr (([]:List R8),(frzL (x10a::x10t) hy4)))
      else none
    else none
  | x2a::x2t=>
   match x10 with
   | []=>
    if 0≤x3∧x3<(((x0).l.length:Nat):Int) then
     ((some (((x0).l).getD (x3).toNat (0,0,0,0,0,0,nl0,0)))).bind fun y2_=>
     if x12<((((y2_.2.2.2.2.2.2.1)).l.length:Nat):Int) then
      if 0≤x12∧x12<((((y2_.2.2.2.2.2.2.1)).l.length:Nat):Int) then
       if (x12).toNat<(((y2_.2.2.2.2.2.2.1)).l).length then
        ((some ((((y2_.2.2.2.2.2.2.1)).l).getD (x12).toNat 0))).bind fun y6_=>
        some (.inl ((x2a::x2t),[(w64 (y6_+x1))],(w64 (x12+1))))
       else none
      else none
     else
      some (.inr ((x2a::x2t),nl0))
    else none
   | x10a::x10t=>
    if 0≤x3∧x3<(((x0).l.length:Nat):Int) then
     ((some (((x0).l).getD (x3).toNat (0,0,0,0,0,0,nl0,0)))).bind fun y2_=>
     if x12<((((y2_.2.2.2.2.2.2.1)).l.length:Nat):Int) then
      if 0≤x12∧x12<((((y2_.2.2.2.2.2.2.1)).l.length:Nat):Int) then
       if (x12).toNat<(((y2_.2.2.2.2.2.2.1)).l).length then
        ((some ((((y2_.2.2.2.2.2.2.1)).l).getD (x12).toNat 0))).bind fun y6_=>
        if (((x10a::x10t)).length+1)*8≤140737488355328 then
         some (.inl ((x2a::x2t),((x10a::x10t) ++ [(w64 (y6_+x1))]),(w64 (x12+1))))
        else none
       else none
      else none
     else
      if hy4:(x10a::x10t).length≤140737488355328 then
       some (.inr ((x2a::x2t),(frzL (x10a::x10t) hy4)))
      else none
    else none
def qde_ (n:Nat)(x0:WL rw_iiiiiiLu)(x1 x3 x4 x5 x6 x7 x8 x9 x11:Int)(st:List R8×List Int×Int):Option (List R8×NL):=iterM (q7_ n x0 x1 x3 x4 x5 x6 x7 x8 x9 x11) n st
theorem qhu_ (n:Nat){rnd:Option Nat}(x0:WL rw_iiiiiiLu)(x1 x3 x4 x5 x6 x7 x8 x9 x11:Int)(st:List R8×List Int×Int)(o:(List R8×List Int×Int) ⊕ (List R8×NL))(h:q7_ n x0 x1 x3 x4 x5 x6 x7 x8 x9 x11 st=some o):CG P rnd (fnN P 34) 0 (qo_ P 34 [false,false,true,false,true,true,false,false,true,false,false,true,false,true,true]) (qcf_ x0 x1 x3 x4 x5 x6 x7 x8 x9 x11 st) (Sum.elim (fun s=>(.normal,qcf_ x0 x1 x3 x4 x5 x6 x7 x8 x9 x11 s)) (fun r=>qf_ x0 x1 x3 x4 x5 x6 x7 x8 x9 x11 r) o):=by
 obtain⟨x2,x10,x12⟩:=st
 unfold q7_ at h
 dsimp only at h
 cases x2 with
 | nil=>
  dsimp only at h
  cases x10 with
  | nil=>
   dsimp only at h
   obtain⟨hy1,h⟩:=gd h
   obtain⟨y2_,hy2,h⟩:=oB h
   have k0:=fun {A L l} (k:PL A L l)=>zz 5 (xk1 (x0).num (x0).off (x0).cap hy1) <|
    zz 6 (fk7 (x0).num (Nat.add (x0).off ((x3).toNat*8))) <|
    zz 7 (lk8 hy2 (qex_ hy1)) <|
    k
   by_cases hy3:x12<((((y2_.2.2.2.2.2.2.1)).l.length:Nat):Int)
   ·rw[if_pos hy3] at h
    obtain⟨hy4,h⟩:=gd h
    obtain⟨hy5,h⟩:=gd h
    obtain⟨y6_,hy6,h⟩:=oB h
    obtain rfl:=oI h
    exact runC2 hm ⟨[0,1,5,6,7,8],[(1,1,false),(2,16,false)],3,0,[],false,[],[],[]⟩ (k0 <|
     zz 9 (xdT hy3) <|
     zz 17 (xk1 (x0).num (x0).off (x0).cap hy1) <|
     zz 18 (fk7 (x0).num (Nat.add (x0).off ((x3).toNat*8))) <|
     zz 19 (lk8 hy2 (qex_ hy1)) <|
     zz 21 (xk9 (Nat.add ((y2_.2.2.2.2.2.2.1)).num 64) ((y2_.2.2.2.2.2.2.1)).off ((y2_.2.2.2.2.2.2.1)).cap hy4) <|
     zz 22 (nk10 hy6 hy5) <|
     ee) (by kernel_rfl)
   ·rw[if_neg hy3] at h
    obtain rfl:=oI h
    exact runC2 hm ⟨[0,1,5,6,7],[(1,1,false)],2,0,[],true,[35],[],[]⟩ (k0 <|
     zz 9 (xdF hy3) <|
     ee) (by kernel_rfl)
  | cons x10a x10t=>
   dsimp only at h
   obtain⟨hy1,h⟩:=gd h
   obtain⟨y2_,hy2,h⟩:=oB h
   have k0:=fun {A L l} (k:PL A L l)=>zz 5 (xk1 (x0).num (x0).off (x0).cap hy1) <|
    zz 6 (fk7 (x0).num (Nat.add (x0).off ((x3).toNat*8))) <|
    zz 7 (lk8 hy2 (qex_ hy1)) <|
    k
   by_cases hy3:x12<((((y2_.2.2.2.2.2.2.1)).l.length:Nat):Int)
   ·rw[if_pos hy3] at h
    obtain⟨hy4,h⟩:=gd h
    obtain⟨hy5,h⟩:=gd h
    obtain⟨y6_,hy6,h⟩:=oB h
    obtain⟨hy7,h⟩:=gd h
    obtain rfl:=oI h
    exact runC2 hm ⟨[0,1,5,6,7,8],[(1,1,false),(2,16,true)],3,0,[],false,[],[],[]⟩ (k0 <|
     zz 9 (xdT hy3) <|
     zz 17 (xk1 (x0).num (x0).off (x0).cap hy1) <|
     zz 18 (fk7 (x0).num (Nat.add (x0).off ((x3).toNat*8))) <|
     zz 19 (lk8 hy2 (qex_ hy1)) <|
     zz 21 (xk9 (Nat.add ((y2_.2.2.2.2.2.2.1)).num 64) ((y2_.2.2.2.2.2.2.1)).off ((y2_.2.2.2.2.2.2.1)).cap hy4) <|
     zz 22 (nk10 hy6 hy5) <|
     yy 26 (.app ⟨none,iv (x10a::x10t),(iv ((x10a::x10t) ++ [(w64 (y6_+x1))])),(((x10a::x10t) ++ [(w64 (y6_+x1))])).length,false⟩) <|
     ww (p:=0<1) ((by decide)) <|
     ww (p:=rdT (layT (iv (x10a::x10t))) (Nat.mul ((x10a::x10t)).length 1) 0=some (iv (x10a::x10t))) (iv_rd _) <|
     ww (p:=fits (Nat.add ((x10a::x10t)).length 1) 8=true) (qk3_ hy7 (by have:=hy7; show (_:Nat)+_≤_; omega)) <|
     ww (p:=qbc_ [(i6 (w64 (y6_+x1)))]=true) (rfl) <|
     ww (p:=qbc_ (iv (x10a::x10t))=true) (qv5_ _) <|
     ww (p:=iv (x10a::x10t) ++ [(i6 (w64 (y6_+x1)))]=(iv ((x10a::x10t) ++ [(w64 (y6_+x1))]))) (by simp[iv]) <|
     ww (p:=Nat.add ((x10a::x10t)).length 1=(((x10a::x10t) ++ [(w64 (y6_+x1))])).length) (by simp) <|
     ww (qc_ ((x10a::x10t) ++ [(w64 (y6_+x1))]) 3) <|
     ee) (by kernel_rfl)
   ·rw[if_neg hy3] at h
    obtain⟨hy4,h⟩:=gdD h
    obtain rfl:=oI h
    exact runC2 hm ⟨[0,1,5,6,7],[(1,1,false)],2,0,[(2,Nat.add (2*cod (x10a::x10t)+1) 64)],true,[],[],[]⟩ (k0 <|
     zz 9 (xdF hy3) <|
     ww (frz_ok qob_ wins_odd (x10a::x10t)) <|
     ee) (by kernel_rfl)
 | cons x2a x2t=>
  dsimp only at h
  cases x10 with
  | nil=>
   dsimp only at h
   obtain⟨hy1,h⟩:=gd h
   obtain⟨y2_,hy2,h⟩:=oB h
   have k0:=fun {A L l} (k:PL A L l)=>zz 5 (xk1 (x0).num (x0).off (x0).cap hy1) <|
    zz 6 (fk7 (x0).num (Nat.add (x0).off ((x3).toNat*8))) <|
    zz 7 (lk8 hy2 (qex_ hy1)) <|
    k
   by_cases hy3:x12<((((y2_.2.2.2.2.2.2.1)).l.length:Nat):Int)
   ·rw[if_pos hy3] at h
    obtain⟨hy4,h⟩:=gd h
    obtain⟨hy5,h⟩:=gd h
    obtain⟨y6_,hy6,h⟩:=oB h
    obtain rfl:=oI h
    exact runC2 hm ⟨[0,1,5,6,7,8],[(0,0,true),(1,1,false),(2,16,false)],3,0,[],false,[],[],[]⟩ (k0 <|
     zz 9 (xdT hy3) <|
     zz 17 (xk1 (x0).num (x0).off (x0).cap hy1) <|
     zz 18 (fk7 (x0).num (Nat.add (x0).off ((x3).toNat*8))) <|
     zz 19 (lk8 hy2 (qex_ hy1)) <|
     zz 21 (xk9 (Nat.add ((y2_.2.2.2.2.2.2.1)).num 64) ((y2_.2.2.2.2.2.2.1)).off ((y2_.2.2.2.2.2.2.1)).cap hy4) <|
     zz 22 (nk10 hy6 hy5) <|
     ww (qa_ rwf_iiiiiiLu (x2a::x2t) 35) <|
     ee) (by kernel_rfl)
   ·rw[if_neg hy3] at h
    obtain rfl:=oI h
    exact runC2 hm ⟨[0,1,5,6,7],[(0,0,true),(1,1,false)],2,0,[],true,[35],[],[]⟩ (k0 <|
     zz 9 (xdF hy3) <|
     ww (qa_ rwf_iiiiiiLu (x2a::x2t) 35) <|
     ww (qa_ rwf_iiiiiiLu (x2a::x2t) 35) <|
     ee) (by kernel_rfl)
  | cons x10a x10t=>
   dsimp only at h
   obtain⟨hy1,h⟩:=gd h
   obtain⟨y2_,hy2,h⟩:=oB h
   have k0:=fun {A L l} (k:PL A L l)=>zz 5 (xk1 (x0).num (x0).off (x0).cap hy1) <|
    zz 6 (fk7 (x0).num (Nat.add (x0).off ((x3).toNat*8))) <|
    zz 7 (lk8 hy2 (qex_ hy1)) <|
    k
   by_cases hy3:x12<((((y2_.2.2.2.2.2.2.1)).l.length:Nat):Int)
   ·rw[if_pos hy3] at h
    obtain⟨hy4,h⟩:=gd h
    obtain⟨hy5,h⟩:=gd h
    obtain⟨y6_,hy6,h⟩:=oB h
    obtain⟨hy7,h⟩:=gd h
    obtain rfl:=oI h
    exact runC2 hm ⟨[0,1,5,6,7,8],[(0,0,true),(1,1,false),(2,16,true)],3,0,[],false,[],[],[]⟩ (k0 <|
     zz 9 (xdT hy3) <|
     zz 17 (xk1 (x0).num (x0).off (x0).cap hy1) <|
     zz 18 (fk7 (x0).num (Nat.add (x0).off ((x3).toNat*8))) <|
     zz 19 (lk8 hy2 (qex_ hy1)) <|
     zz 21 (xk9 (Nat.add ((y2_.2.2.2.2.2.2.1)).num 64) ((y2_.2.2.2.2.2.2.1)).off ((y2_.2.2.2.2.2.2.1)).cap hy4) <|
     zz 22 (nk10 hy6 hy5) <|
     yy 26 (.app ⟨none,iv (x10a::x10t),(iv ((x10a::x10t) ++ [(w64 (y6_+x1))])),(((x10a::x10t) ++ [(w64 (y6_+x1))])).length,false⟩) <|
     ww (p:=0<1) ((by decide)) <|
     ww (p:=rdT (layT (iv (x10a::x10t))) (Nat.mul ((x10a::x10t)).length 1) 0=some (iv (x10a::x10t))) (iv_rd _) <|
     ww (p:=fits (Nat.add ((x10a::x10t)).length 1) 8=true) (qk3_ hy7 (by have:=hy7; show (_:Nat)+_≤_; omega)) <|
     ww (p:=qbc_ [(i6 (w64 (y6_+x1)))]=true) (rfl) <|
     ww (p:=qbc_ (iv (x10a::x10t))=true) (qv5_ _) <|
     ww (p:=iv (x10a::x10t) ++ [(i6 (w64 (y6_+x1)))]=(iv ((x10a::x10t) ++ [(w64 (y6_+x1))]))) (by simp[iv]) <|
     ww (p:=Nat.add ((x10a::x10t)).length 1=(((x10a::x10t) ++ [(w64 (y6_+x1))])).length) (by simp) <|
     ww (qa_ rwf_iiiiiiLu (x2a::x2t) 35) <|
     ww (qc_ ((x10a::x10t) ++ [(w64 (y6_+x1))]) 3) <|
     ee) (by kernel_rfl)
   ·rw[if_neg hy3] at h
    obtain⟨hy4,h⟩:=gdD h
    obtain rfl:=oI h
    exact runC2 hm ⟨[0,1,5,6,7],[(0,0,true),(1,1,false)],2,0,[(2,Nat.add (2*cod (x10a::x10t)+1) 64)],true,[],[],[]⟩ (k0 <|
     zz 9 (xdF hy3) <|
     ww (qa_ rwf_iiiiiiLu (x2a::x2t) 35) <|
     ww (frz_ok qob_ wins_odd (x10a::x10t)) <|
     ww (qa_ rwf_iiiiiiLu (x2a::x2t) 35) <|
     ee) (by kernel_rfl)
theorem qcn_ (n:Nat){rnd:Option Nat}(x0:WL rw_iiiiiiLu)(x1 x3 x4 x5 x6 x7 x8 x9 x11:Int)(st:List R8×List Int×Int)(r:List R8×NL)(h:qde_ n x0 x1 x3 x4 x5 x6 x7 x8 x9 x11 st=some r):CG P rnd (fnN P 34) 0 (qo_ P 34 [false,true,false,true,true,false,false,true,false,false,true,false,true,true]) (qcf_ x0 x1 x3 x4 x5 x6 x7 x8 x9 x11 st) (qf_ x0 x1 x3 x4 x5 x6 x7 x8 x9 x11 r):=
 CG.iter (b:=qo_ P 34 [false,false,true,false,true,true,false,false,true,false,false,true,false,true,true]) (by kernel_rfl) (body:=q7_ n x0 x1 x3 x4 x5 x6 x7 x8 x9 x11) (S:=qcf_ x0 x1 x3 x4 x5 x6 x7 x8 x9 x11) (X:=qf_ x0 x1 x3 x4 x5 x6 x7 x8 x9 x11)
  (fun s s' h=>qhu_ n x0 x1 x3 x4 x5 x6 x7 x8 x9 x11 s (.inl s') h)
  (fun s r h=>qhu_ n x0 x1 x3 x4 x5 x6 x7 x8 x9 x11 s (.inr r) h)
  (fun r=>by intro hx; cases hx) h
def qcg_ (x0:WL rw_iiiiiiLu)(x1:Int)(st:List R8×Int):XSt:=match st with
 | (x2,x3)=>(sT 50 [(0,(wlV x0)),(1,(i6 x1)),(5,(slR x2 0 8)),(6,(i6 x3))],[],⟨sB [(0,(nblkR rw_iiiiiiLu x2 35))],1,0⟩)
def q8_ (x0:WL rw_iiiiiiLu)(x1:Int)(r:List R8):Ex×XSt:=match r with
 | z0=>(.exit 0,(sT 50 [(5,(slR z0 0 8))],[],⟨sB [(0,(nblkR rw_iiiiiiLu z0 35))],1,0⟩))
abbrev qwc_ (rnd:Option Nat)(x0:WL rw_iiiiiiLu)(x1:Int)(st:List R8×Int)(c:Ex×XSt):Prop:=CG P rnd (fnN P 34) 0 (qo_ P 34 [false,false,true,false,true,true]) (qcg_ x0 x1 st) c
def q9_ (n:Nat)(x0:WL rw_iiiiiiLu)(x1:Int)(st:List R8×Int):Option ((List R8×Int) ⊕ (List R8)):=match st with
 | (x2,x3)=>
  match x2 with
  | []=>
   if x3<(((x0).l.length:Nat):Int) then
    if 0≤x3∧x3<(((x0).l.length:Nat):Int) then
     ((some (((x0).l).getD (x3).toNat (0,0,0,0,0,0,nl0,0)))).bind fun y3_=>
     (qde_ n x0 x1 x3 (y3_.1) (y3_.2.1) (y3_.2.2.1) (y3_.2.2.2.1) (y3_.2.2.2.2.1) (y3_.2.2.2.2.2.1) (y3_.2.2.2.2.2.2.2) (([]:List R8),([]:List Int),0)).bind fun t=>match t with
     | (y4_0,y4_1)=>
      match y4_0 with
      | []=>
       some (.inl ([((y3_.1),(y3_.2.1),(y3_.2.2.1),(y3_.2.2.2.1),(y3_.2.2.2.2.1),(y3_.2.2.2.2.2.1),y4_1,(y3_.2.2.2.2.2.2.2))],(w64 (x3+1))))
      | y4_0a::y4_0t=>
       if (((y4_0a::y4_0t)).length+1)*80≤140737488355328 then
        some (.inl (((y4_0a::y4_0t) ++ [((y3_.1),(y3_.2.1),(y3_.2.2.1),(y3_.2.2.2.1),(y3_.2.2.2.2.1),(y3_.2.2.2.2.2.1),y4_1,(y3_.2.2.2.2.2.2.2))]),(w64 (x3+1))))
       else none
    else none
   else
    some (.inr ([]:List R8))
  | x2a::x2t=>
   if x3<(((x0).l.length:Nat):Int) then
    if 0≤x3∧x3<(((x0).l.length:Nat):Int) then
     ((some (((x0).l).getD (x3).toNat (0,0,0,0,0,0,nl0,0)))).bind fun y3_=>
     (qde_ n x0 x1 x3 (y3_.1) (y3_.2.1) (y3_.2.2.1) (y3_.2.2.2.1) (y3_.2.2.2.2.1) (y3_.2.2.2.2.2.1) (y3_.2.2.2.2.2.2.2) ((x2a::x2t),([]:List Int),0)).bind fun t=>match t with
     | (y4_0,y4_1)=>
      match y4_0 with
      | []=>
       some (.inl ([((y3_.1),(y3_.2.1),(y3_.2.2.1),(y3_.2.2.2.1),(y3_.2.2.2.2.1),(y3_.2.2.2.2.2.1),y4_1,(y3_.2.2.2.2.2.2.2))],(w64 (x3+1))))
      | y4_0a::y4_0t=>
       if (((y4_0a::y4_0t)).length+1)*80≤140737488355328 then
        some (.inl (((y4_0a::y4_0t) ++ [((y3_.1),(y3_.2.1),(y3_.2.2.1),(y3_.2.2.2.1),(y3_.2.2.2.2.1),(y3_.2.2.2.2.2.1),y4_1,(y3_.2.2.2.2.2.2.2))]),(w64 (x3+1))))
       else none
    else none
   else
    some (.inr (x2a::x2t))
def qeq_ (n:Nat)(x0:WL rw_iiiiiiLu)(x1:Int)(st:List R8×Int):Option (List R8):=iterM (q9_ n x0 x1) n st
theorem qhv_ (n:Nat){rnd:Option Nat}(x0:WL rw_iiiiiiLu)(x1:Int)(st:List R8×Int)(o:(List R8×Int) ⊕ (List R8))(h:q9_ n x0 x1 st=some o):CG P rnd (fnN P 34) 0 (qo_ P 34 [false,false,true,false,true,true]) (qcg_ x0 x1 st) (Sum.elim (fun s=>(.normal,qcg_ x0 x1 s)) (fun r=>q8_ x0 x1 r) o):=by
 obtain⟨x2,x3⟩:=st
 unfold q9_ at h
 dsimp only at h
 cases x2 with
 | nil=>
  dsimp only at h
  by_cases hy1:x3<(((x0).l.length:Nat):Int)
  ·rw[if_pos hy1] at h
   obtain⟨hy2,h⟩:=gd h
   obtain⟨y3_,hy3,h⟩:=oB h
   obtain⟨⟨y4_0,y4_1⟩,hy4,h⟩:=oB h
   dsimp only at h
   have k0:=fun {A L l} (k:PL A L l)=>zz 5 (xdT hy1) <|
    zz 12 (xk1 (x0).num (x0).off (x0).cap hy2) <|
    zz 13 (lk2 hy3 (qex_ hy2)) <|
    k
   cases y4_0 with
   | nil=>
    dsimp only at h
    obtain rfl:=oI h
    exact runC2 hm ⟨[0,1,5,6],[(0,3,false)],1,0,[],false,[],[],[]⟩ (k0 <|
     ww (qcn_ n (rnd:=rnd) x0 x1 x3 (y3_.1) (y3_.2.1) (y3_.2.2.1) (y3_.2.2.2.1) (y3_.2.2.2.2.1) (y3_.2.2.2.2.2.1) (y3_.2.2.2.2.2.2.2) (([]:List R8),([]:List Int),0) (([]:List R8),y4_1) hy4) <|
     ll 23 ⟨⟨[0,1,5,6,7,8],[(1,1,false)],3,0,[],false,[],[],[]⟩,(qf_ x0 x1 x3 (y3_.1) (y3_.2.1) (y3_.2.2.1) (y3_.2.2.2.1) (y3_.2.2.2.2.1) (y3_.2.2.2.2.2.1) (y3_.2.2.2.2.2.2.2) (([]:List R8),y4_1)).1,(qf_ x0 x1 x3 (y3_.1) (y3_.2.1) (y3_.2.2.1) (y3_.2.2.2.1) (y3_.2.2.2.2.1) (y3_.2.2.2.2.2.1) (y3_.2.2.2.2.2.2.2) (([]:List R8),y4_1)).2⟩ <|
     ee) (by kernel_rfl)
   | cons y4_0a y4_0t=>
    dsimp only at h
    obtain⟨hy5,h⟩:=gd h
    obtain rfl:=oI h
    exact runC2 hm ⟨[0,1,5,6],[(0,3,true)],1,0,[],false,[],[],[]⟩ (k0 <|
     ww (qcn_ n (rnd:=rnd) x0 x1 x3 (y3_.1) (y3_.2.1) (y3_.2.2.1) (y3_.2.2.2.1) (y3_.2.2.2.2.1) (y3_.2.2.2.2.2.1) (y3_.2.2.2.2.2.2.2) (([]:List R8),([]:List Int),0) ((y4_0a::y4_0t),y4_1) hy4) <|
     ll 23 ⟨⟨[0,1,5,6,7,8],[(1,1,false)],3,0,[],false,[],[],[]⟩,(qf_ x0 x1 x3 (y3_.1) (y3_.2.1) (y3_.2.2.1) (y3_.2.2.2.1) (y3_.2.2.2.2.1) (y3_.2.2.2.2.2.1) (y3_.2.2.2.2.2.2.2) ((y4_0a::y4_0t),y4_1)).1,(qf_ x0 x1 x3 (y3_.1) (y3_.2.1) (y3_.2.2.1) (y3_.2.2.2.1) (y3_.2.2.2.2.1) (y3_.2.2.2.2.2.1) (y3_.2.2.2.2.2.2.2) ((y4_0a::y4_0t),y4_1)).2⟩ <|
     yy 27 (.app ⟨none,rows rw_iiiiiiLu (y4_0a::y4_0t),(rows rw_iiiiiiLu ((y4_0a::y4_0t) ++ [((y3_.1),(y3_.2.1),(y3_.2.2.1),(y3_.2.2.2.1),(y3_.2.2.2.2.1),(y3_.2.2.2.2.2.1),y4_1,(y3_.2.2.2.2.2.2.2))])),(((y4_0a::y4_0t) ++ [((y3_.1),(y3_.2.1),(y3_.2.2.1),(y3_.2.2.2.1),(y3_.2.2.2.2.1),(y3_.2.2.2.2.2.1),y4_1,(y3_.2.2.2.2.2.2.2))])).length,false⟩) <|
     ww (p:=0<1) ((by decide)) <|
     ww (p:=rdT (layT (rows rw_iiiiiiLu (y4_0a::y4_0t))) (Nat.mul ((y4_0a::y4_0t)).length 8) 0=some (rows rw_iiiiiiLu (y4_0a::y4_0t))) (rows_rd rwf_iiiiiiLu _ _ rfl) <|
     ww (p:=fits (Nat.add ((y4_0a::y4_0t)).length 1) 80=true) (qk3_ hy5 (by have:=hy5; show (_:Nat)+_≤_; omega)) <|
     ww (p:=qbc_ [(i6 (y3_.1)),(i6 (y3_.2.1)),(i6 (y3_.2.2.1)),(i6 (y3_.2.2.2.1)),(i6 (y3_.2.2.2.2.1)),(i6 (y3_.2.2.2.2.2.1)),(nlV y4_1),(Value.int .u64 (y3_.2.2.2.2.2.2.2))]=true) (rfl) <|
     ww (p:=qbc_ (rows rw_iiiiiiLu (y4_0a::y4_0t))=true) (qlx_ rwf_iiiiiiLu _) <|
     ww (p:=rows rw_iiiiiiLu (y4_0a::y4_0t) ++ [(i6 (y3_.1)),(i6 (y3_.2.1)),(i6 (y3_.2.2.1)),(i6 (y3_.2.2.2.1)),(i6 (y3_.2.2.2.2.1)),(i6 (y3_.2.2.2.2.2.1)),(nlV y4_1),(Value.int .u64 (y3_.2.2.2.2.2.2.2))]=(rows rw_iiiiiiLu ((y4_0a::y4_0t) ++ [((y3_.1),(y3_.2.1),(y3_.2.2.1),(y3_.2.2.2.1),(y3_.2.2.2.2.1),(y3_.2.2.2.2.2.1),y4_1,(y3_.2.2.2.2.2.2.2))]))) (qth_ rw_iiiiiiLu (y4_0a::y4_0t) [((y3_.1),(y3_.2.1),(y3_.2.2.1),(y3_.2.2.2.1),(y3_.2.2.2.2.1),(y3_.2.2.2.2.2.1),y4_1,(y3_.2.2.2.2.2.2.2))]) <|
     ww (p:=Nat.add ((y4_0a::y4_0t)).length 1=(((y4_0a::y4_0t) ++ [((y3_.1),(y3_.2.1),(y3_.2.2.1),(y3_.2.2.2.1),(y3_.2.2.2.2.1),(y3_.2.2.2.2.2.1),y4_1,(y3_.2.2.2.2.2.2.2))])).length) (by simp) <|
     ww (qa_ rwf_iiiiiiLu ((y4_0a::y4_0t) ++ [((y3_.1),(y3_.2.1),(y3_.2.2.1),(y3_.2.2.2.1),(y3_.2.2.2.2.1),(y3_.2.2.2.2.2.1),y4_1,(y3_.2.2.2.2.2.2.2))]) 35) <|
     ee) (by kernel_rfl)
  ·rw[if_neg hy1] at h
   obtain rfl:=oI h
   exact runC2 hm ⟨[5],[],1,0,[],false,[],[],[]⟩ (zz 5 (xdF hy1) <|
    ee) (by kernel_rfl)
 | cons x2a x2t=>
  dsimp only at h
  by_cases hy1:x3<(((x0).l.length:Nat):Int)
  ·rw[if_pos hy1] at h
   obtain⟨hy2,h⟩:=gd h
   obtain⟨y3_,hy3,h⟩:=oB h
   obtain⟨⟨y4_0,y4_1⟩,hy4,h⟩:=oB h
   dsimp only at h
   have k0:=fun {A L l} (k:PL A L l)=>zz 5 (xdT hy1) <|
    zz 12 (xk1 (x0).num (x0).off (x0).cap hy2) <|
    zz 13 (lk2 hy3 (qex_ hy2)) <|
    k
   cases y4_0 with
   | nil=>
    dsimp only at h
    obtain rfl:=oI h
    exact runC2 hm ⟨[0,1,5,6],[(0,3,false)],1,0,[],false,[],[],[]⟩ (k0 <|
     ww (qcn_ n (rnd:=rnd) x0 x1 x3 (y3_.1) (y3_.2.1) (y3_.2.2.1) (y3_.2.2.2.1) (y3_.2.2.2.2.1) (y3_.2.2.2.2.2.1) (y3_.2.2.2.2.2.2.2) ((x2a::x2t),([]:List Int),0) (([]:List R8),y4_1) hy4) <|
     ww (qa_ rwf_iiiiiiLu (x2a::x2t) 35) <|
     ll 23 ⟨⟨[0,1,5,6,7,8],[(0,0,true),(1,1,false)],3,0,[],false,[],[],[]⟩,(qf_ x0 x1 x3 (y3_.1) (y3_.2.1) (y3_.2.2.1) (y3_.2.2.2.1) (y3_.2.2.2.2.1) (y3_.2.2.2.2.2.1) (y3_.2.2.2.2.2.2.2) (([]:List R8),y4_1)).1,(qf_ x0 x1 x3 (y3_.1) (y3_.2.1) (y3_.2.2.1) (y3_.2.2.2.1) (y3_.2.2.2.2.1) (y3_.2.2.2.2.2.1) (y3_.2.2.2.2.2.2.2) (([]:List R8),y4_1)).2⟩ <|
     ee) (by kernel_rfl)
   | cons y4_0a y4_0t=>
    dsimp only at h
    obtain⟨hy5,h⟩:=gd h
    obtain rfl:=oI h
    exact runC2 hm ⟨[0,1,5,6],[(0,3,true)],1,0,[],false,[],[],[]⟩ (k0 <|
     ww (qcn_ n (rnd:=rnd) x0 x1 x3 (y3_.1) (y3_.2.1) (y3_.2.2.1) (y3_.2.2.2.1) (y3_.2.2.2.2.1) (y3_.2.2.2.2.2.1) (y3_.2.2.2.2.2.2.2) ((x2a::x2t),([]:List Int),0) ((y4_0a::y4_0t),y4_1) hy4) <|
     ww (qa_ rwf_iiiiiiLu (x2a::x2t) 35) <|
     ll 23 ⟨⟨[0,1,5,6,7,8],[(0,0,true),(1,1,false)],3,0,[],false,[],[],[]⟩,(qf_ x0 x1 x3 (y3_.1) (y3_.2.1) (y3_.2.2.1) (y3_.2.2.2.1) (y3_.2.2.2.2.1) (y3_.2.2.2.2.2.1) (y3_.2.2.2.2.2.2.2) ((y4_0a::y4_0t),y4_1)).1,(qf_ x0 x1 x3 (y3_.1) (y3_.2.1) (y3_.2.2.1) (y3_.2.2.2.1) (y3_.2.2.2.2.1) (y3_.2.2.2.2.2.1) (y3_.2.2.2.2.2.2.2) ((y4_0a::y4_0t),y4_1)).2⟩ <|
     yy 27 (.app ⟨none,rows rw_iiiiiiLu (y4_0a::y4_0t),(rows rw_iiiiiiLu ((y4_0a::y4_0t) ++ [((y3_.1),(y3_.2.1),(y3_.2.2.1),(y3_.2.2.2.1),(y3_.2.2.2.2.1),(y3_.2.2.2.2.2.1),y4_1,(y3_.2.2.2.2.2.2.2))])),(((y4_0a::y4_0t) ++ [((y3_.1),(y3_.2.1),(y3_.2.2.1),(y3_.2.2.2.1),(y3_.2.2.2.2.1),(y3_.2.2.2.2.2.1),y4_1,(y3_.2.2.2.2.2.2.2))])).length,false⟩) <|
     ww (p:=0<1) ((by decide)) <|
     ww (p:=rdT (layT (rows rw_iiiiiiLu (y4_0a::y4_0t))) (Nat.mul ((y4_0a::y4_0t)).length 8) 0=some (rows rw_iiiiiiLu (y4_0a::y4_0t))) (rows_rd rwf_iiiiiiLu _ _ rfl) <|
     ww (p:=fits (Nat.add ((y4_0a::y4_0t)).length 1) 80=true) (qk3_ hy5 (by have:=hy5; show (_:Nat)+_≤_; omega)) <|
     ww (p:=qbc_ [(i6 (y3_.1)),(i6 (y3_.2.1)),(i6 (y3_.2.2.1)),(i6 (y3_.2.2.2.1)),(i6 (y3_.2.2.2.2.1)),(i6 (y3_.2.2.2.2.2.1)),(nlV y4_1),(Value.int .u64 (y3_.2.2.2.2.2.2.2))]=true) (rfl) <|
     ww (p:=qbc_ (rows rw_iiiiiiLu (y4_0a::y4_0t))=true) (qlx_ rwf_iiiiiiLu _) <|
     ww (p:=rows rw_iiiiiiLu (y4_0a::y4_0t) ++ [(i6 (y3_.1)),(i6 (y3_.2.1)),(i6 (y3_.2.2.1)),(i6 (y3_.2.2.2.1)),(i6 (y3_.2.2.2.2.1)),(i6 (y3_.2.2.2.2.2.1)),(nlV y4_1),(Value.int .u64 (y3_.2.2.2.2.2.2.2))]=(rows rw_iiiiiiLu ((y4_0a::y4_0t) ++ [((y3_.1),(y3_.2.1),(y3_.2.2.1),(y3_.2.2.2.1),(y3_.2.2.2.2.1),(y3_.2.2.2.2.2.1),y4_1,(y3_.2.2.2.2.2.2.2))]))) (qth_ rw_iiiiiiLu (y4_0a::y4_0t) [((y3_.1),(y3_.2.1),(y3_.2.2.1),(y3_.2.2.2.1),(y3_.2.2.2.2.1),(y3_.2.2.2.2.2.1),y4_1,(y3_.2.2.2.2.2.2.2))]) <|
     ww (p:=Nat.add ((y4_0a::y4_0t)).length 1=(((y4_0a::y4_0t) ++ [((y3_.1),(y3_.2.1),(y3_.2.2.1),(y3_.2.2.2.1),(y3_.2.2.2.2.1),(y3_.2.2.2.2.2.1),y4_1,(y3_.2.2.2.2.2.2.2))])).length) (by simp) <|
     ww (qa_ rwf_iiiiiiLu ((y4_0a::y4_0t) ++ [((y3_.1),(y3_.2.1),(y3_.2.2.1),(y3_.2.2.2.1),(y3_.2.2.2.2.1),(y3_.2.2.2.2.2.1),y4_1,(y3_.2.2.2.2.2.2.2))]) 35) <|
     ee) (by kernel_rfl)
  ·rw[if_neg hy1] at h
   obtain rfl:=oI h
   exact runC2 hm ⟨[5],[(0,0,true)],1,0,[],false,[],[],[]⟩ (zz 5 (xdF hy1) <|
    ww (qa_ rwf_iiiiiiLu (x2a::x2t) 35) <|
    ee) (by kernel_rfl)
theorem qf7_ (n:Nat){rnd:Option Nat}(x0:WL rw_iiiiiiLu)(x1:Int)(st:List R8×Int)(r:List R8)(h:qeq_ n x0 x1 st=some r):CG P rnd (fnN P 34) 0 (qo_ P 34 [false,true,false,true,true]) (qcg_ x0 x1 st) (q8_ x0 x1 r):=
 CG.iter (b:=qo_ P 34 [false,false,true,false,true,true]) (by kernel_rfl) (body:=q9_ n x0 x1) (S:=qcg_ x0 x1) (X:=q8_ x0 x1)
  (fun s s' h=>qhv_ n x0 x1 s (.inl s') h)
  (fun s r h=>qhv_ n x0 x1 s (.inr r) h)
  (fun r=>by intro hx; cases hx) h
def qc0_ (n:Nat)(a0:WL rw_iiiiiiLu)(a1:Int):Option (List R8):=
 (qeq_ n a0 a1 (([]:List R8),0)).bind fun c1_=>
 match c1_ with
 | []=>
  some ([]:List R8)
 | c1_a::c1_t=>
  some (c1_a::c1_t)
theorem qha_ (n:Nat)(a0:WL rw_iiiiiiLu)(a1:Int)(r:List R8)(h:qc0_ n a0 a1=some r):Gv P (.func 34) (qiz_ a0 a1) (qi0_ a0 a1) (qfd_ a0 a1 r) (qfe_ a0 a1 r):=by
 unfold qc0_ at h
 obtain⟨c1_,hc1,h⟩:=oB h
 cases c1_ with
 | nil=>
  dsimp only at h
  obtain rfl:=oI h
  exact runF2 hm ⟨[4],[],1,0,[],false,[],[],[]⟩ (ww (qf7_ n (rnd:=none) a0 a1 (([]:List R8),0) ([]:List R8) hc1) <|
   ll 8 ⟨⟨[0,1,5,6],[],1,0,[],false,[],[],[]⟩,(q8_ a0 a1 ([]:List R8)).1,(q8_ a0 a1 ([]:List R8)).2⟩ <|
   ee) (by kernel_rfl)
 | cons c1_a c1_t=>
  dsimp only at h
  obtain rfl:=oI h
  exact runF2 hm ⟨[4],[(0,0,true)],1,0,[],false,[],[],[]⟩ (ww (qf7_ n (rnd:=none) a0 a1 (([]:List R8),0) (c1_a::c1_t) hc1) <|
   ll 8 ⟨⟨[0,1,5,6],[],1,0,[],false,[],[],[]⟩,(q8_ a0 a1 (c1_a::c1_t)).1,(q8_ a0 a1 (c1_a::c1_t)).2⟩ <|
   ww (qa_ rwf_iiiiiiLu (c1_a::c1_t) 35) <|
   ee) (by kernel_rfl)

def qjk_ (a0:WL rw_iiiiiiLu):List Value:=[(wlV a0)]
def qjl_ (a0:WL rw_iiiiiiLu):AH:=⟨sB [],0,0⟩
def qgg_ (a0:WL rw_iiiiiiLu)(r:List R8):Value:=match r with
 | o0=>(slR o0 0 8)
def qgh_ (a0:WL rw_iiiiiiLu)(r:List R8):AH:=match r with
 | o0=>⟨sB [(0,(nblkR rw_iiiiiiLu o0 35))],1,0⟩
abbrev G_viewportref16Copyq1 (a0:WL rw_iiiiiiLu)(r:List R8):Prop:=Gv P (.func 17) (qjk_ a0) (qjl_ a0) (qgg_ a0 r) (qgh_ a0 r)
abbrev qjm_ (a0:WL rw_iiiiiiLu)(r:List R8)(ins outs:BL):CallA:=⟨0,ins,qgg_ a0 r,qgh_ a0 r,outs⟩
def qd9_ (n:Nat)(a0:WL rw_iiiiiiLu):Option (List R8):=
 (qc0_ n a0 0).bind fun c1_=>
 match c1_ with
 | []=>
  some ([]:List R8)
 | c1_a::c1_t=>
  some (c1_a::c1_t)
theorem qhw_ (n:Nat)(a0:WL rw_iiiiiiLu)(r:List R8)(h:qd9_ n a0=some r):Gv P (.func 17) (qjk_ a0) (qjl_ a0) (qgg_ a0 r) (qgh_ a0 r):=by
 unfold qd9_ at h
 obtain⟨c1_,hc1,h⟩:=oB h
 cases c1_ with
 | nil=>
  dsimp only at h
  obtain rfl:=oI h
  exact runF2 hm ⟨[2],[],1,0,[],false,[],[],[]⟩ (yy 4 (.call (qi1_ a0 0 ([]:List R8) [] [])) <|
   ww (qha_ n a0 0 ([]:List R8) hc1) <|
   ee) (by kernel_rfl)
 | cons c1_a c1_t=>
  dsimp only at h
  obtain rfl:=oI h
  exact runF2 hm ⟨[2],[(0,0,true)],1,0,[],false,[],[],[]⟩ (yy 4 (.call (qi1_ a0 0 (c1_a::c1_t) [] [(0,0,true)])) <|
   ww (qha_ n a0 0 (c1_a::c1_t) hc1) <|
   ww (qa_ rwf_iiiiiiLu (c1_a::c1_t) 35) <|
   ww (qa_ rwf_iiiiiiLu (c1_a::c1_t) 35) <|
   ee) (by kernel_rfl)

def qjn_ (a0:WL rw_iiiiiiLu):List Value:=[(wlV a0)]
def qjo_ (a0:WL rw_iiiiiiLu):AH:=⟨sB [],0,0⟩
def qgi_ (a0:WL rw_iiiiiiLu)(r:List R8×Nat):Value:=match r with
 | (o0,o1)=>(slQ o0 0 o1 8)
def qgj_ (a0:WL rw_iiiiiiLu)(r:List R8×Nat):AH:=match r with
 | (o0,o1)=>⟨sB [(0,(nblkR rw_iiiiiiLu o0 35))],1,0⟩
abbrev G_viewportref16Bareq1 (a0:WL rw_iiiiiiLu)(r:List R8×Nat):Prop:=Gv P (.func 7) (qjn_ a0) (qjo_ a0) (qgi_ a0 r) (qgj_ a0 r)
abbrev qoc_ (a0:WL rw_iiiiiiLu)(r:List R8×Nat)(ins outs:BL):CallA:=⟨0,ins,qgi_ a0 r,qgj_ a0 r,outs⟩
def qcp_ (x1:Nat)(st:List R8×Int):XSt:=match st with
 | (x0,x2)=>(sT 21 [(3,(slQ x0 0 x1 8)),(4,(i6 x2))],[],⟨sB [(0,(nblkR rw_iiiiiiLu x0 35))],1,0⟩)
def qj_ (x1:Nat)(r:List R8×Nat):Ex×XSt:=match r with
 | (z0,z1)=>(.exit 0,(sT 21 [(3,(slQ z0 0 z1 8))],[],⟨sB [(0,(nblkR rw_iiiiiiLu z0 35))],1,0⟩))
abbrev Q_viewportref16Bareq1_1 (rnd:Option Nat)(x1:Nat)(st:List R8×Int)(c:Ex×XSt):Prop:=CG P rnd (fnN P 7) 0 (qo_ P 7 [false,false,true,false,true,true,true]) (qcp_ x1 st) c
def qbf_ (n x1:Nat)(st:List R8×Int):Option ((List R8×Int) ⊕ (List R8×Nat)):=match st with
 | (x0,x2)=>
  match x0 with
  | []=>
   if x2<0 then
    none
   else
    some (.inr (([]:List R8),0))
  | x0a::x0t=>
   if x2<((x1:Nat):Int) then
    if 0≤x2∧x2<((x1:Nat):Int) then
     if (x2).toNat<((x0a::x0t)).length then
      ((some (((x0a::x0t)).getD (x2).toNat (0,0,0,0,0,0,nl0,0)))).bind fun y4_=>
      some (.inl ((((x0a::x0t)).set (x2).toNat ((y4_.1),(y4_.2.1),(y4_.2.2.1),(y4_.2.2.2.1),(y4_.2.2.2.2.1),(y4_.2.2.2.2.2.1),(y4_.2.2.2.2.2.2.1),(0:Int))),(w64 (x2+1))))
     else none
    else none
   else
    some (.inr ((x0a::x0t),x1))
def qdt_ (n x1:Nat)(st:List R8×Int):Option (List R8×Nat):=iterM (qbf_ n x1) n st
theorem qia_ (n:Nat){rnd:Option Nat}(x1:Nat)(st:List R8×Int)(o:(List R8×Int) ⊕ (List R8×Nat))(h:qbf_ n x1 st=some o):CG P rnd (fnN P 7) 0 (qo_ P 7 [false,false,true,false,true,true,true]) (qcp_ x1 st) (Sum.elim (fun s=>(.normal,qcp_ x1 s)) (fun r=>qj_ x1 r) o):=by
 obtain⟨x0,x2⟩:=st
 unfold qbf_ at h
 dsimp only at h
 cases x0 with
 | nil=>
  dsimp only at h
  by_cases hy1:x2<0
  ·rw[if_pos hy1] at h
   cases h
  ·rw[if_neg hy1] at h
   obtain rfl:=oI h
   exact runC2 hm ⟨[3],[],1,0,[],false,[],[],[]⟩ (zz 5 (xdF hy1) <|
    ee) (by kernel_rfl)
 | cons x0a x0t=>
  dsimp only at h
  by_cases hy1:x2<((x1:Nat):Int)
  ·rw[if_pos hy1] at h
   obtain⟨hy2,h⟩:=gd h
   obtain⟨hy3,h⟩:=gd h
   obtain⟨y4_,hy4,h⟩:=oB h
   obtain rfl:=oI h
   obtain⟨za,zt,hz⟩:∃ a t,(((x0a::x0t)).set (x2).toNat ((y4_.1),(y4_.2.1),(y4_.2.2.1),(y4_.2.2.2.1),(y4_.2.2.2.2.1),(y4_.2.2.2.2.2.1),(y4_.2.2.2.2.2.2.1),(0:Int)))=a::t:=set_cons
   rw[hz]
   exact runC2 hm ⟨[3,4],[(0,0,true)],1,0,[],false,[],[],[]⟩ (zz 5 (xdT hy1) <|
    zz 11 (xk13 0 U8 hy2) <|
    yy 13 (.sto (layT (rows rw_iiiiiiLu (za::zt)))) <|
    ww (p:=∃ old,rdT (layT (rows rw_iiiiiiLu (x0a::x0t))) 1 (Nat.add ((x2).toNat*8) 7)=some old) ((ste (k:=1) (qv7_ rwf_iiiiiiLu (0,0,0,0,0,0,nl0,0) (hr:=hy4) (i:=(x2).toNat) (j:=7) (l:=[(Value.int .u64 (0:Int))]) ((y4_.1),(y4_.2.1),(y4_.2.2.1),(y4_.2.2.2.1),(y4_.2.2.2.2.1),(y4_.2.2.2.2.2.1),(y4_.2.2.2.2.2.2.1),(0:Int)) (Nat.add ((x2).toNat*8) 7) rfl (hy3) (Nat.le_of_ble_eq_true rfl) rfl)).p) <|
    ww (p:=layL [(Value.int .u64 (0:Int))] (Nat.add ((x2).toNat*8) 7) (layT (rows rw_iiiiiiLu (x0a::x0t)))=layT (rows rw_iiiiiiLu (za::zt))) (by rw[←hz]; exact (ste (k:=1) (qv7_ rwf_iiiiiiLu (0,0,0,0,0,0,nl0,0) (hr:=hy4) (i:=(x2).toNat) (j:=7) (l:=[(Value.int .u64 (0:Int))]) ((y4_.1),(y4_.2.1),(y4_.2.2.1),(y4_.2.2.2.1),(y4_.2.2.2.2.1),(y4_.2.2.2.2.2.1),(y4_.2.2.2.2.2.2.1),(0:Int)) (Nat.add ((x2).toNat*8) 7) rfl (hy3) (Nat.le_of_ble_eq_true rfl) rfl)).q) <|
    ww (qa_ rwf_iiiiiiLu (za::zt) 35) <|
    ee) (by kernel_rfl)
  ·rw[if_neg hy1] at h
   obtain rfl:=oI h
   exact runC2 hm ⟨[3],[(0,0,true)],1,0,[],false,[],[],[]⟩ (zz 5 (xdF hy1) <|
    ww (qa_ rwf_iiiiiiLu (x0a::x0t) 35) <|
    ee) (by kernel_rfl)
theorem qcv_ (n:Nat){rnd:Option Nat}(x1:Nat)(st:List R8×Int)(r:List R8×Nat)(h:qdt_ n x1 st=some r):CG P rnd (fnN P 7) 0 (qo_ P 7 [false,true,false,true,true,true]) (qcp_ x1 st) (qj_ x1 r):=
 CG.iter (b:=qo_ P 7 [false,false,true,false,true,true,true]) (by kernel_rfl) (body:=qbf_ n x1) (S:=qcp_ x1) (X:=qj_ x1)
  (fun s s' h=>qia_ n x1 s (.inl s') h)
  (fun s r h=>qia_ n x1 s (.inr r) h)
  (fun r=>by intro hx; cases hx) h
def qc9_ (n:Nat)(a0:WL rw_iiiiiiLu):Option (List R8×Nat):=
 (q2_ n a0).bind fun c1_=>
 if c1_=0 then
  (qd9_ n a0).bind fun c3_=>
  match c3_ with
  | []=>
   (qdt_ n 0 (([]:List R8),0)).bind fun t=>match t with
   | (c4_0,c4_1)=>
    match c4_0 with
    | []=>
     some (([]:List R8),0)
    | c4_0a::c4_0t=>
     some ((c4_0a::c4_0t),c4_1)
  | c3_a::c3_t=>
   (qdt_ n (((c3_a::c3_t)).length) ((c3_a::c3_t),0)).bind fun t=>match t with
   | (c4_0,c4_1)=>
    match c4_0 with
    | []=>
     some (([]:List R8),0)
    | c4_0a::c4_0t=>
     some ((c4_0a::c4_0t),c4_1)
 else
  some (([]:List R8),0)
theorem qma_ (n:Nat)(a0:WL rw_iiiiiiLu)(r:List R8×Nat)(h:qc9_ n a0=some r):Gv P (.func 7) (qjn_ a0) (qjo_ a0) (qgi_ a0 r) (qgj_ a0 r):=by
 unfold qc9_ at h
 obtain⟨c1_,hc1,h⟩:=oB h
 have k0:=fun {A L l} (k:PL A L l)=>yy 5 (.call (qiy_ a0 c1_ [] [])) <|
  ww (qg9_ n a0 c1_ hc1) <|
  k
 by_cases hc2:c1_=0
 ·rw[if_pos hc2] at h
  obtain⟨c3_,hc3,h⟩:=oB h
  have k2:=fun {A L l} (k:PL A L l)=>zz 6 (xnF hc2) <|
   k
  cases c3_ with
  | nil=>
   dsimp only at h
   obtain⟨⟨c4_0,c4_1⟩,hc4,h⟩:=oB h
   dsimp only at h
   have k3:=fun {A L l} (k:PL A L l)=>yy 10 (.call (qjm_ a0 ([]:List R8) [] [])) <|
    ww (qhw_ n a0 ([]:List R8) hc3) <|
    k
   cases c4_0 with
   | nil=>
    dsimp only at h
    obtain rfl:=oI h
    exact runF2 hm ⟨[2],[],1,0,[],false,[],[],[]⟩ (k0 <|
     k2 <|
     k3 <|
     ww (qcv_ n (rnd:=none) 0 (([]:List R8),0) (([]:List R8),c4_1) hc4) <|
     ll 16 ⟨⟨[3,4],[],1,0,[],false,[],[],[]⟩,(qj_ 0 (([]:List R8),c4_1)).1,(qj_ 0 (([]:List R8),c4_1)).2⟩ <|
     ee) (by kernel_rfl)
   | cons c4_0a c4_0t=>
    dsimp only at h
    obtain rfl:=oI h
    exact runF2 hm ⟨[2],[(0,0,true)],1,0,[],false,[],[],[]⟩ (k0 <|
     k2 <|
     k3 <|
     ww (qcv_ n (rnd:=none) 0 (([]:List R8),0) ((c4_0a::c4_0t),c4_1) hc4) <|
     ll 16 ⟨⟨[3,4],[],1,0,[],false,[],[],[]⟩,(qj_ 0 ((c4_0a::c4_0t),c4_1)).1,(qj_ 0 ((c4_0a::c4_0t),c4_1)).2⟩ <|
     ww (qa_ rwf_iiiiiiLu (c4_0a::c4_0t) 35) <|
     ee) (by kernel_rfl)
  | cons c3_a c3_t=>
   dsimp only at h
   obtain⟨⟨c4_0,c4_1⟩,hc4,h⟩:=oB h
   dsimp only at h
   have k3:=fun {A L l} (k:PL A L l)=>yy 10 (.call (qjm_ a0 (c3_a::c3_t) [] [(0,0,true)])) <|
    ww (qhw_ n a0 (c3_a::c3_t) hc3) <|
    ww (qa_ rwf_iiiiiiLu (c3_a::c3_t) 35) <|
    k
   cases c4_0 with
   | nil=>
    dsimp only at h
    obtain rfl:=oI h
    exact runF2 hm ⟨[2],[],1,0,[],false,[],[],[]⟩ (k0 <|
     k2 <|
     k3 <|
     ww (qcv_ n (rnd:=none) (((c3_a::c3_t)).length) ((c3_a::c3_t),0) (([]:List R8),c4_1) hc4) <|
     ww (qa_ rwf_iiiiiiLu (c3_a::c3_t) 35) <|
     ll 16 ⟨⟨[3,4],[(0,0,true)],1,0,[],false,[],[],[]⟩,(qj_ (((c3_a::c3_t)).length) (([]:List R8),c4_1)).1,(qj_ (((c3_a::c3_t)).length) (([]:List R8),c4_1)).2⟩ <|
     ee) (by kernel_rfl)
   | cons c4_0a c4_0t=>
    dsimp only at h
    obtain rfl:=oI h
    exact runF2 hm ⟨[2],[(0,0,true)],1,0,[],false,[],[],[]⟩ (k0 <|
     k2 <|
     k3 <|
     ww (qcv_ n (rnd:=none) (((c3_a::c3_t)).length) ((c3_a::c3_t),0) ((c4_0a::c4_0t),c4_1) hc4) <|
     ww (qa_ rwf_iiiiiiLu (c3_a::c3_t) 35) <|
     ll 16 ⟨⟨[3,4],[(0,0,true)],1,0,[],false,[],[],[]⟩,(qj_ (((c3_a::c3_t)).length) ((c4_0a::c4_0t),c4_1)).1,(qj_ (((c3_a::c3_t)).length) ((c4_0a::c4_0t),c4_1)).2⟩ <|
     ww (qa_ rwf_iiiiiiLu (c4_0a::c4_0t) 35) <|
     ee) (by kernel_rfl)
 ·rw[if_neg hc2] at h
  obtain rfl:=oI h
  exact runF2 hm ⟨[2],[],1,0,[],false,[],[],[]⟩ (k0 <|
   zz 6 (xnT hc2) <|
   ee) (by kernel_rfl)

def qra_:List Value:=[(Value.slice none 0 0)]
def qrb_:AH:=⟨sB [],0,0⟩
def qno_ (r:Unit):Value:=match r with
 | _=>(i6 (2:Int))
def qnp_ (r:Unit):AH:=match r with
 | _=>⟨sB [],0,0⟩
abbrev G_treeCheckq1 (r:Unit):Prop:=Gv P (.func 35) qra_ qrb_ (qno_  r) (qnp_  r)
abbrev C_treeCheckq1 (r:Unit)(ins outs:BL):CallA:=⟨0,ins,qno_  r,qnp_  r,outs⟩
def qrc_ (n:Nat):Option (Unit):=
 some ()
theorem m_treeCheckq1_ok (n:Nat)(r:Unit)(h:qrc_ n=some r):Gv P (.func 35) qra_ qrb_ (qno_  r) (qnp_  r):=by
 unfold qrc_ at h
 obtain rfl:=oI h
 exact runF2 hm ⟨[2],[],0,0,[],false,[],[],[]⟩ (ee) (by kernel_rfl)

def qol_ (a0:List R8)(a1:Nat):List Value:=[(sN 0 0 a1 (Nat.add big 8))]
def qom_ (a0:List R8)(a1:Nat):AH:=⟨sB [(0,(some (.cells (layT (rows rw_iiiiiiLu a0)) 35)))],1,1⟩
def qlb_ (a0:List R8)(a1:Nat)(r:Bool):Value:=match r with
 | o0=>(bO o0)
def qlc_ (a0:List R8)(a1:Nat)(r:Bool):AH:=match r with
 | o0=>⟨sB [],1,1⟩
abbrev G_treeinOrderq1 (a0:List R8)(a1:Nat)(r:Bool):Prop:=Gv P (.func 63) (qol_ a0 a1) (qom_ a0 a1) (qlb_ a0 a1 r) (qlc_ a0 a1 r)
abbrev qt1_ (a0:List R8)(a1:Nat)(r:Bool)(ins outs:BL):CallA:=⟨1,ins,qlb_ a0 a1 r,qlc_ a0 a1 r,outs⟩
def qe0_ (x0:List R8)(x1:Nat)(x4:Int)(st:List (Int×Int×Int)×Nat×Int):XSt:=match st with
 | (x2,x3,x5)=>(sT 99 [(0,(sN 0 0 x1 (Nat.add big 8))),(3,(slQ x2 1 x3 3)),(8,(sN 0 0 x1 (Nat.add big 8))),(9,(i6 x4)),(10,(i6 x5))],[],⟨sB [(0,(some (.cells (layT (rows rw_iiiiiiLu x0)) 35))),(1,(nblkR qgp_ x2 183))],2,1⟩)
def qb0_ (x0:List R8)(x1:Nat)(x4:Int)(r:(Unit) ⊕ (List (Int×Int×Int)×Nat)):Ex×XSt:=match r with
 | .inl _=>(.ret,(sT 99 [(2,(bO false))],[],⟨sB [(0,(some (.cells (layT (rows rw_iiiiiiLu x0)) 35)))],1,1⟩))
 | .inr (z0,z1)=>(.exit 0,(sT 99 [(3,(slQ z0 1 z1 3))],[],⟨sB [(0,(some (.cells (layT (rows rw_iiiiiiLu x0)) 35))),(1,(nblkR qgp_ z0 183))],2,1⟩))
abbrev Q_treeinOrderq1_1 (rnd:Option Nat)(x0:List R8)(x1:Nat)(x4:Int)(st:List (Int×Int×Int)×Nat×Int)(c:Ex×XSt):Prop:=CG P rnd (fnN P 63) 1 (qo_ P 63 [false,false,true,false,true,true]) (qe0_ x0 x1 x4 st) c
def qi_ (n:Nat)(x0:List R8)(x1:Nat)(x4:Int)(st:List (Int×Int×Int)×Nat×Int):Option ((List (Int×Int×Int)×Nat×Int) ⊕ ((Unit) ⊕ (List (Int×Int×Int)×Nat))):=match st with
 | (x2,x3,x5)=>
  match x2 with
  | []=>
   if x5<x4 then
    if 0≤x5∧x5<((x1:Nat):Int) then
     if (x5).toNat<(x0).length then
      ((some ((x0).getD (x5).toNat (0,0,0,0,0,0,nl0,0)))).bind fun y4_=>
      if x5 > 0 then
       some (.inr (.inl ()))
      else
       if ((((y4_.2.2.2.2.2.2.1)).l.length:Nat):Int) > 0 then
        some (.inl ([(x5,(0:Int),(y4_.2.2.1))],1,(w64 (x5+1))))
       else
        some (.inl (([]:List (Int×Int×Int)),0,(w64 (x5+1))))
     else none
    else none
   else
    some (.inr (.inr (([]:List (Int×Int×Int)),0)))
  | x2a::x2t=>
   if x5<x4 then
    if 0≤x5∧x5<((x1:Nat):Int) then
     if (x5).toNat<(x0).length then
      ((some ((x0).getD (x5).toNat (0,0,0,0,0,0,nl0,0)))).bind fun y4_=>
      if x5 > 0 then
       if ((x3:Nat):Int)=0 then
        some (.inr (.inl ()))
       else
        ((some (w64 (((x3:Nat):Int)-1)))).bind fun y7_=>
        if 0≤y7_∧y7_<((x3:Nat):Int) then
         if (y7_).toNat<((x2a::x2t)).length then
          ((some (((x2a::x2t)).getD (y7_).toNat (0,0,0)))).bind fun y10_=>
          if 0≤(y10_.1)∧(y10_.1)<((x1:Nat):Int) then
           if ((y10_.1)).toNat<(x0).length then
            ((some ((x0).getD ((y10_.1)).toNat (0,0,0,0,0,0,nl0,0)))).bind fun y13_=>
            if 0≤(y10_.2.1)∧(y10_.2.1)<((((y13_.2.2.2.2.2.2.1)).l.length:Nat):Int) then
             if ((y10_.2.1)).toNat<(((y13_.2.2.2.2.2.2.1)).l).length then
              ((some ((((y13_.2.2.2.2.2.2.1)).l).getD ((y10_.2.1)).toNat 0))).bind fun y16_=>
              if y16_=x5 then
               if (y4_.2.2.1)<(y10_.2.2) then
                some (.inr (.inl ()))
               else
                if (y4_.2.2.2.2.1) > (y13_.2.2.2.2.1) then
                 some (.inr (.inl ()))
                else
                 if (w64 ((y10_.2.1)+1))=((((y13_.2.2.2.2.2.2.1)).l.length:Nat):Int) then
                  if 0≤y7_∧y7_≤((x3:Nat):Int) then
                   if ((((y4_.2.2.2.2.2.2.1)).l.length:Nat):Int) > 0 then
                    if (y7_).toNat≤((((x2a::x2t)).set (y7_).toNat ((y10_.1),(w64 ((y10_.2.1)+1)),(y4_.2.2.2.2.1)))).length then
                     if ((y7_).toNat+1)*24≤140737488355328 then
                      some (.inl (((List.take (y7_).toNat (((x2a::x2t)).set (y7_).toNat ((y10_.1),(w64 ((y10_.2.1)+1)),(y4_.2.2.2.2.1)))) ++ [(x5,(0:Int),(y4_.2.2.1))]),((((List.take (y7_).toNat (((x2a::x2t)).set (y7_).toNat ((y10_.1),(w64 ((y10_.2.1)+1)),(y4_.2.2.2.2.1)))) ++ [(x5,(0:Int),(y4_.2.2.1))])).length),(w64 (x5+1))))
                     else none
                    else none
                   else
                    some (.inl ((((x2a::x2t)).set (y7_).toNat ((y10_.1),(w64 ((y10_.2.1)+1)),(y4_.2.2.2.2.1))),((y7_).toNat),(w64 (x5+1))))
                  else none
                 else
                  if ((((y4_.2.2.2.2.2.2.1)).l.length:Nat):Int) > 0 then
                   if x3≤((((x2a::x2t)).set (y7_).toNat ((y10_.1),(w64 ((y10_.2.1)+1)),(y4_.2.2.2.2.1)))).length then
                    if (x3+1)*24≤140737488355328 then
                     some (.inl (((List.take x3 (((x2a::x2t)).set (y7_).toNat ((y10_.1),(w64 ((y10_.2.1)+1)),(y4_.2.2.2.2.1)))) ++ [(x5,(0:Int),(y4_.2.2.1))]),((((List.take x3 (((x2a::x2t)).set (y7_).toNat ((y10_.1),(w64 ((y10_.2.1)+1)),(y4_.2.2.2.2.1)))) ++ [(x5,(0:Int),(y4_.2.2.1))])).length),(w64 (x5+1))))
                    else none
                   else none
                  else
                   some (.inl ((((x2a::x2t)).set (y7_).toNat ((y10_.1),(w64 ((y10_.2.1)+1)),(y4_.2.2.2.2.1))),x3,(w64 (x5+1))))
              else
               some (.inr (.inl ()))
             else none
            else none
           else none
          else none
         else none
        else none
      else
       if ((((y4_.2.2.2.2.2.2.1)).l.length:Nat):Int) > 0 then
        if x3≤((x2a::x2t)).length then
         if (x3+1)*24≤140737488355328 then
          some (.inl (((List.take x3 (x2a::x2t)) ++ [(x5,(0:Int),(y4_.2.2.1))]),((((List.take x3 (x2a::x2t)) ++ [(x5,(0:Int),(y4_.2.2.1))])).length),(w64 (x5+1))))
         else none
        else none
       else
        some (.inl ((x2a::x2t),x3,(w64 (x5+1))))
     else none
    else none
   else
    some (.inr (.inr ((x2a::x2t),x3)))
def qgy_ (n:Nat)(x0:List R8)(x1:Nat)(x4:Int)(st:List (Int×Int×Int)×Nat×Int):Option ((Unit) ⊕ (List (Int×Int×Int)×Nat)):=iterM (qi_ n x0 x1 x4) n st
theorem qmw_ (n:Nat){rnd:Option Nat}(x0:List R8)(x1:Nat)(x4:Int)(st:List (Int×Int×Int)×Nat×Int)(o:(List (Int×Int×Int)×Nat×Int) ⊕ ((Unit) ⊕ (List (Int×Int×Int)×Nat)))(h:qi_ n x0 x1 x4 st=some o):CG P rnd (fnN P 63) 1 (qo_ P 63 [false,false,true,false,true,true]) (qe0_ x0 x1 x4 st) (Sum.elim (fun s=>(.normal,qe0_ x0 x1 x4 s)) (fun r=>qb0_ x0 x1 x4 r) o):=by
 obtain⟨x2,x3,x5⟩:=st
 unfold qi_ at h
 dsimp only at h
 cases x2 with
 | nil=>
  dsimp only at h
  by_cases hy1:x5<x4
  ·rw[if_pos hy1] at h
   obtain⟨hy2,h⟩:=gd h
   obtain⟨hy3,h⟩:=gd h
   obtain⟨y4_,hy4,h⟩:=oB h
   have k0:=fun {A L l} (k:PL A L l)=>zz 1 (xdT hy1) <|
    zz 8 (xk13 0 U8 hy2) <|
    yy 9 (.ld (Value.agg #[(i6 (y4_.1)),(i6 (y4_.2.1)),(i6 (y4_.2.2.1)),(i6 (y4_.2.2.2.1)),(i6 (y4_.2.2.2.2.1)),(i6 (y4_.2.2.2.2.2.1)),(nlV (y4_.2.2.2.2.2.2.1)),(Value.int .u64 (y4_.2.2.2.2.2.2.2))])) <|
    ww (p:=rdT (layT (rows rw_iiiiiiLu x0)) 8 ((x5).toNat*8)=some [(i6 (y4_.1)),(i6 (y4_.2.1)),(i6 (y4_.2.2.1)),(i6 (y4_.2.2.2.1)),(i6 (y4_.2.2.2.2.1)),(i6 (y4_.2.2.2.2.2.1)),(nlV (y4_.2.2.2.2.2.2.1)),(Value.int .u64 (y4_.2.2.2.2.2.2.2))]) (qjw_ rwf_iiiiiiLu (0,0,0,0,0,0,nl0,0) (hr:=hy4) (i:=(x5).toNat) (j:=0) ((x5).toNat*8) rfl (hy3) (by decide) rfl) <|
    k
   by_cases hy5:x5 > 0
   ·rw[if_pos hy5] at h
    obtain rfl:=oI h
    exact runC2 hm ⟨[2],[(0,0,true)],1,1,[],false,[],[],[]⟩ (k0 <|
     zz 16 (xdT hy5) <|
     ww (qa_ rwf_iiiiiiLu x0 35) <|
     ee) (by kernel_rfl)
   ·rw[if_neg hy5] at h
    have k4:=fun {A L l} (k:PL A L l)=>zz 16 (xdF hy5) <|
     k
    by_cases hy6:((((y4_.2.2.2.2.2.2.1)).l.length:Nat):Int) > 0
    ·rw[if_pos hy6] at h
     obtain rfl:=oI h
     exact runC2 hm ⟨[0,3,8,9,10],[(0,0,true),(1,4,false)],2,1,[],false,[],[],[]⟩ (k0 <|
      k4 <|
      zz 22 (xdT hy6) <|
      ww (qa_ rwf_iiiiiiLu x0 35) <|
      ee) (by kernel_rfl)
    ·rw[if_neg hy6] at h
     obtain rfl:=oI h
     exact runC2 hm ⟨[0,3,8,9,10],[(0,0,true)],2,1,[],false,[],[],[]⟩ (k0 <|
      k4 <|
      zz 22 (xdF hy6) <|
      ww (qa_ rwf_iiiiiiLu x0 35) <|
      ee) (by kernel_rfl)
  ·rw[if_neg hy1] at h
   obtain rfl:=oI h
   exact runC2 hm ⟨[3],[(0,0,true)],2,1,[],false,[],[],[]⟩ (zz 1 (xdF hy1) <|
    ww (qa_ rwf_iiiiiiLu x0 35) <|
    ee) (by kernel_rfl)
 | cons x2a x2t=>
  dsimp only at h
  by_cases hy1:x5<x4
  ·rw[if_pos hy1] at h
   obtain⟨hy2,h⟩:=gd h
   obtain⟨hy3,h⟩:=gd h
   obtain⟨y4_,hy4,h⟩:=oB h
   have k0:=fun {A L l} (k:PL A L l)=>zz 1 (xdT hy1) <|
    zz 8 (xk13 0 U8 hy2) <|
    yy 9 (.ld (Value.agg #[(i6 (y4_.1)),(i6 (y4_.2.1)),(i6 (y4_.2.2.1)),(i6 (y4_.2.2.2.1)),(i6 (y4_.2.2.2.2.1)),(i6 (y4_.2.2.2.2.2.1)),(nlV (y4_.2.2.2.2.2.2.1)),(Value.int .u64 (y4_.2.2.2.2.2.2.2))])) <|
    ww (p:=rdT (layT (rows rw_iiiiiiLu x0)) 8 ((x5).toNat*8)=some [(i6 (y4_.1)),(i6 (y4_.2.1)),(i6 (y4_.2.2.1)),(i6 (y4_.2.2.2.1)),(i6 (y4_.2.2.2.2.1)),(i6 (y4_.2.2.2.2.2.1)),(nlV (y4_.2.2.2.2.2.2.1)),(Value.int .u64 (y4_.2.2.2.2.2.2.2))]) (qjw_ rwf_iiiiiiLu (0,0,0,0,0,0,nl0,0) (hr:=hy4) (i:=(x5).toNat) (j:=0) ((x5).toNat*8) rfl (hy3) (by decide) rfl) <|
    k
   by_cases hy5:x5 > 0
   ·rw[if_pos hy5] at h
    have k4:=fun {A L l} (k:PL A L l)=>zz 16 (xdT hy5) <|
     k
    by_cases hy6:((x3:Nat):Int)=0
    ·rw[if_pos hy6] at h
     obtain rfl:=oI h
     exact runC2 hm ⟨[2],[(0,0,true)],1,1,[],false,[],[],[]⟩ (k0 <|
      k4 <|
      zz 22 (xeT hy6) <|
      ww (qa_ rwf_iiiiiiLu x0 35) <|
      ee) (by kernel_rfl)
    ·rw[if_neg hy6] at h
     obtain⟨y7_,hy7,h⟩:=oB h
     obtain⟨hy8,h⟩:=gd h
     obtain⟨hy9,h⟩:=gd h
     obtain⟨y10_,hy10,h⟩:=oB h
     obtain⟨hy11,h⟩:=gd h
     obtain⟨hy12,h⟩:=gd h
     obtain⟨y13_,hy13,h⟩:=oB h
     obtain⟨hy14,h⟩:=gd h
     obtain⟨hy15,h⟩:=gd h
     obtain⟨y16_,hy16,h⟩:=oB h
     have k5:=fun {A L l} (k:PL A L l)=>zz 22 (xeF hy6) <|
      zz 28 (xnm hy7) <|
      zz 29 (xk14 1 U3 hy8) <|
      zz 36 (ok15 hy10 (hy9)) <|
      zz 37 (xk13 0 U8 hy11) <|
      yy 38 (.ld (Value.agg #[(i6 (y13_.1)),(i6 (y13_.2.1)),(i6 (y13_.2.2.1)),(i6 (y13_.2.2.2.1)),(i6 (y13_.2.2.2.2.1)),(i6 (y13_.2.2.2.2.2.1)),(nlV (y13_.2.2.2.2.2.2.1)),(Value.int .u64 (y13_.2.2.2.2.2.2.2))])) <|
      ww (p:=rdT (layT (rows rw_iiiiiiLu x0)) 8 (((y10_.1)).toNat*8)=some [(i6 (y13_.1)),(i6 (y13_.2.1)),(i6 (y13_.2.2.1)),(i6 (y13_.2.2.2.1)),(i6 (y13_.2.2.2.2.1)),(i6 (y13_.2.2.2.2.2.1)),(nlV (y13_.2.2.2.2.2.2.1)),(Value.int .u64 (y13_.2.2.2.2.2.2.2))]) (qjw_ rwf_iiiiiiLu (0,0,0,0,0,0,nl0,0) (hr:=hy13) (i:=((y10_.1)).toNat) (j:=0) (((y10_.1)).toNat*8) rfl (hy12) (by decide) rfl) <|
      zz 48 (ok16 hy10 (hy9)) <|
      zz 49 (xk9 (Nat.add ((y13_.2.2.2.2.2.2.1)).num 64) ((y13_.2.2.2.2.2.2.1)).off ((y13_.2.2.2.2.2.2.1)).cap hy14) <|
      zz 50 (nk10 hy16 hy15) <|
      k
     by_cases hy17:y16_=x5
     ·rw[if_pos hy17] at h
      have k15:=fun {A L l} (k:PL A L l)=>zz 52 (xnF hy17) <|
       zz 59 (ok17 hy10 (hy9)) <|
       k
      by_cases hy18:(y4_.2.2.1)<(y10_.2.2)
      ·rw[if_pos hy18] at h
       obtain rfl:=oI h
       exact runC2 hm ⟨[2],[(0,0,true)],1,1,[],false,[],[],[]⟩ (k0 <|
        k4 <|
        k5 <|
        k15 <|
        zz 60 (xdT hy18) <|
        ww (qa_ rwf_iiiiiiLu x0 35) <|
        ee) (by kernel_rfl)
      ·rw[if_neg hy18] at h
       have k17:=fun {A L l} (k:PL A L l)=>zz 60 (xdF hy18) <|
        k
       by_cases hy19:(y4_.2.2.2.2.1) > (y13_.2.2.2.2.1)
       ·rw[if_pos hy19] at h
        obtain rfl:=oI h
        exact runC2 hm ⟨[2],[(0,0,true)],1,1,[],false,[],[],[]⟩ (k0 <|
         k4 <|
         k5 <|
         k15 <|
         k17 <|
         zz 67 (xdT hy19) <|
         ww (qa_ rwf_iiiiiiLu x0 35) <|
         ee) (by kernel_rfl)
       ·rw[if_neg hy19] at h
        have k18:=fun {A L l} (k:PL A L l)=>zz 67 (xdF hy19) <|
         zz 76 (ok16 hy10 (hy9)) <|
         z2 82 (ste (k:=1) (qv7_ qhr_ (0,0,0) (hr:=hy10) (i:=(y7_).toNat) (j:=1) (l:=[(i6 (w64 ((y10_.2.1)+1)))]) ((y10_.1),(w64 ((y10_.2.1)+1)),(y10_.2.2)) (Nat.add ((y7_).toNat*3) 1) rfl (hy9) (Nat.le_of_ble_eq_true rfl) rfl)) <|
         z2 85 (ste (k:=1) (rows_stS qhr_ (i:=(y7_).toNat) (j:=2) (l:=[(i6 (y4_.2.2.2.2.1))]) ((y10_.1),(w64 ((y10_.2.1)+1)),(y10_.2.2)) ((y10_.1),(w64 ((y10_.2.1)+1)),(y4_.2.2.2.2.1)) (Nat.add ((y7_).toNat*3) 2) rfl (hy9) (Nat.le_of_ble_eq_true rfl) rfl)) <|
         yy 90 (.ld (i6 (w64 ((y10_.2.1)+1)))) <|
         ww (p:=(layT (rows qgp_ (((x2a::x2t)).set (y7_).toNat ((y10_.1),(w64 ((y10_.2.1)+1)),(y4_.2.2.2.2.1))))).get (Nat.add ((y7_).toNat*3) 1)=some (i6 (w64 ((y10_.2.1)+1)))) (rows_ldS qhr_ (i:=(y7_).toNat) (j:=1) ((y10_.1),(w64 ((y10_.2.1)+1)),(y4_.2.2.2.2.1)) (Nat.add ((y7_).toNat*3) 1) rfl (hy9) (by decide) rfl) <|
         k
        by_cases hy20:(w64 ((y10_.2.1)+1))=((((y13_.2.2.2.2.2.2.1)).l.length:Nat):Int)
        ·rw[if_pos hy20] at h
         obtain⟨hy21,h⟩:=gd h
         have k24:=fun {A L l} (k:PL A L l)=>zz 94 (xeT hy20) <|
          zz 99 (xnm hy7) <|
          yy 100 (.pur (sN 1 0 (y7_).toNat (Nat.add big 3))) <|
          ww (p:=qm8_ P 180 (sN 1 0 x3 (Nat.add big 3)) none (some (i6 y7_)) none Ax.h0=some ((sN 1 0 (y7_).toNat (Nat.add big 3)),Ax.h0)) (slRowHi (e:=183) (es:=3) (by kernel_rfl) (by kernel_rfl) rfl rfl hy21) <|
          k
         by_cases hy22:((((y4_.2.2.2.2.2.2.1)).l.length:Nat):Int) > 0
         ·rw[if_pos hy22] at h
          obtain⟨hy23,h⟩:=gd h
          obtain⟨hy24,h⟩:=gd h
          obtain rfl:=oI h
          obtain⟨za,zt,hz⟩:∃ a t,((List.take (y7_).toNat (((x2a::x2t)).set (y7_).toNat ((y10_.1),(w64 ((y10_.2.1)+1)),(y4_.2.2.2.2.1)))) ++ [(x5,(0:Int),(y4_.2.2.1))])=a::t:=qr1_ (List.take (y7_).toNat (((x2a::x2t)).set (y7_).toNat ((y10_.1),(w64 ((y10_.2.1)+1)),(y4_.2.2.2.2.1)))) (x5,(0:Int),(y4_.2.2.1))
          rw[hz]
          try rw[hz] at k0
          try rw[hz] at k4
          try rw[hz] at k5
          try rw[hz] at k15
          try rw[hz] at k17
          try rw[hz] at k18
          try rw[hz] at k24
          exact runC2 hm ⟨[0,3,8,9,10],[(0,0,true),(1,5,true)],2,1,[],false,[],[],[]⟩ (k0 <|
           k4 <|
           k5 <|
           k15 <|
           k17 <|
           k18 <|
           k24 <|
           zz 106 (xdT hy22) <|
           yy 114 (.app ⟨none,rows qgp_ (List.take (y7_).toNat (((x2a::x2t)).set (y7_).toNat ((y10_.1),(w64 ((y10_.2.1)+1)),(y4_.2.2.2.2.1)))),(rows qgp_ (za::zt)),((za::zt)).length,false⟩) <|
           ww (p:=0<1) ((by decide)) <|
           ww (p:=rdT (layT (rows qgp_ (((x2a::x2t)).set (y7_).toNat ((y10_.1),(w64 ((y10_.2.1)+1)),(y4_.2.2.2.2.1))))) (Nat.mul (y7_).toNat 3) 0=some (rows qgp_ (List.take (y7_).toNat (((x2a::x2t)).set (y7_).toNat ((y10_.1),(w64 ((y10_.2.1)+1)),(y4_.2.2.2.2.1)))))) (qqt_ qhr_ _ _ hy23) <|
           ww (p:=fits (Nat.add (y7_).toNat 1) 24=true) (qk3_ hy24 (by have:=hy24; show (_:Nat)+_≤_; omega)) <|
           ww (p:=qbc_ [(i6 x5),(i6 (0:Int)),(i6 (y4_.2.2.1))]=true) (rfl) <|
           ww (p:=qbc_ (rows qgp_ (List.take (y7_).toNat (((x2a::x2t)).set (y7_).toNat ((y10_.1),(w64 ((y10_.2.1)+1)),(y4_.2.2.2.2.1)))))=true) (qlx_ qhr_ _) <|
           ww (p:=rows qgp_ (List.take (y7_).toNat (((x2a::x2t)).set (y7_).toNat ((y10_.1),(w64 ((y10_.2.1)+1)),(y4_.2.2.2.2.1)))) ++ [(i6 x5),(i6 (0:Int)),(i6 (y4_.2.2.1))]=(rows qgp_ (za::zt))) (by rw[←hz]; exact (qth_ qgp_ (List.take (y7_).toNat (((x2a::x2t)).set (y7_).toNat ((y10_.1),(w64 ((y10_.2.1)+1)),(y4_.2.2.2.2.1)))) [(x5,(0:Int),(y4_.2.2.1))])) <|
           ww (p:=Nat.add (y7_).toNat 1=((za::zt)).length) (by rw[←hz]; exact (qv6_ hy23 rfl)) <|
           ww (qa_ rwf_iiiiiiLu x0 35) <|
           ww (qa_ qhr_ (za::zt) 183) <|
           ee) (by kernel_rfl)
         ·rw[if_neg hy22] at h
          obtain rfl:=oI h
          obtain⟨za,zt,hz⟩:∃ a t,(((x2a::x2t)).set (y7_).toNat ((y10_.1),(w64 ((y10_.2.1)+1)),(y4_.2.2.2.2.1)))=a::t:=set_cons
          rw[hz]
          try rw[hz] at k0
          try rw[hz] at k4
          try rw[hz] at k5
          try rw[hz] at k15
          try rw[hz] at k17
          try rw[hz] at k18
          try rw[hz] at k24
          exact runC2 hm ⟨[0,3,8,9,10],[(0,0,true),(1,1,true)],2,1,[],false,[],[],[]⟩ (k0 <|
           k4 <|
           k5 <|
           k15 <|
           k17 <|
           k18 <|
           k24 <|
           zz 106 (xdF hy22) <|
           ww (qa_ rwf_iiiiiiLu x0 35) <|
           ww (qa_ qhr_ (za::zt) 183) <|
           ee) (by kernel_rfl)
        ·rw[if_neg hy20] at h
         have k24:=fun {A L l} (k:PL A L l)=>zz 94 (xeF hy20) <|
          k
         by_cases hy21:((((y4_.2.2.2.2.2.2.1)).l.length:Nat):Int) > 0
         ·rw[if_pos hy21] at h
          obtain⟨hy22,h⟩:=gd h
          obtain⟨hy23,h⟩:=gd h
          obtain rfl:=oI h
          obtain⟨za,zt,hz⟩:∃ a t,((List.take x3 (((x2a::x2t)).set (y7_).toNat ((y10_.1),(w64 ((y10_.2.1)+1)),(y4_.2.2.2.2.1)))) ++ [(x5,(0:Int),(y4_.2.2.1))])=a::t:=qr1_ (List.take x3 (((x2a::x2t)).set (y7_).toNat ((y10_.1),(w64 ((y10_.2.1)+1)),(y4_.2.2.2.2.1)))) (x5,(0:Int),(y4_.2.2.1))
          rw[hz]
          try rw[hz] at k0
          try rw[hz] at k4
          try rw[hz] at k5
          try rw[hz] at k15
          try rw[hz] at k17
          try rw[hz] at k18
          try rw[hz] at k24
          exact runC2 hm ⟨[0,3,8,9,10],[(0,0,true),(1,5,true)],2,1,[],false,[],[],[]⟩ (k0 <|
           k4 <|
           k5 <|
           k15 <|
           k17 <|
           k18 <|
           k24 <|
           zz 100 (xdT hy21) <|
           yy 108 (.app ⟨none,rows qgp_ (List.take x3 (((x2a::x2t)).set (y7_).toNat ((y10_.1),(w64 ((y10_.2.1)+1)),(y4_.2.2.2.2.1)))),(rows qgp_ (za::zt)),((za::zt)).length,false⟩) <|
           ww (p:=0<1) ((by decide)) <|
           ww (p:=rdT (layT (rows qgp_ (((x2a::x2t)).set (y7_).toNat ((y10_.1),(w64 ((y10_.2.1)+1)),(y4_.2.2.2.2.1))))) (Nat.mul x3 3) 0=some (rows qgp_ (List.take x3 (((x2a::x2t)).set (y7_).toNat ((y10_.1),(w64 ((y10_.2.1)+1)),(y4_.2.2.2.2.1)))))) (qqt_ qhr_ _ _ hy22) <|
           ww (p:=fits (Nat.add x3 1) 24=true) (qk3_ hy23 (by have:=hy23; show (_:Nat)+_≤_; omega)) <|
           ww (p:=qbc_ [(i6 x5),(i6 (0:Int)),(i6 (y4_.2.2.1))]=true) (rfl) <|
           ww (p:=qbc_ (rows qgp_ (List.take x3 (((x2a::x2t)).set (y7_).toNat ((y10_.1),(w64 ((y10_.2.1)+1)),(y4_.2.2.2.2.1)))))=true) (qlx_ qhr_ _) <|
           ww (p:=rows qgp_ (List.take x3 (((x2a::x2t)).set (y7_).toNat ((y10_.1),(w64 ((y10_.2.1)+1)),(y4_.2.2.2.2.1)))) ++ [(i6 x5),(i6 (0:Int)),(i6 (y4_.2.2.1))]=(rows qgp_ (za::zt))) (by rw[←hz]; exact (qth_ qgp_ (List.take x3 (((x2a::x2t)).set (y7_).toNat ((y10_.1),(w64 ((y10_.2.1)+1)),(y4_.2.2.2.2.1)))) [(x5,(0:Int),(y4_.2.2.1))])) <|
           ww (p:=Nat.add x3 1=((za::zt)).length) (by rw[←hz]; exact (qv6_ hy22 rfl)) <|
           ww (qa_ rwf_iiiiiiLu x0 35) <|
           ww (qa_ qhr_ (za::zt) 183) <|
           ee) (by kernel_rfl)
         ·rw[if_neg hy21] at h
          obtain rfl:=oI h
          obtain⟨za,zt,hz⟩:∃ a t,(((x2a::x2t)).set (y7_).toNat ((y10_.1),(w64 ((y10_.2.1)+1)),(y4_.2.2.2.2.1)))=a::t:=set_cons
          rw[hz]
          try rw[hz] at k0
          try rw[hz] at k4
          try rw[hz] at k5
          try rw[hz] at k15
          try rw[hz] at k17
          try rw[hz] at k18
          try rw[hz] at k24
          exact runC2 hm ⟨[0,3,8,9,10],[(0,0,true),(1,1,true)],2,1,[],false,[],[],[]⟩ (k0 <|
           k4 <|
           k5 <|
           k15 <|
           k17 <|
           k18 <|
           k24 <|
           zz 100 (xdF hy21) <|
           ww (qa_ rwf_iiiiiiLu x0 35) <|
           ww (qa_ qhr_ (za::zt) 183) <|
           ee) (by kernel_rfl)
     ·rw[if_neg hy17] at h
      obtain rfl:=oI h
      exact runC2 hm ⟨[2],[(0,0,true)],1,1,[],false,[],[],[]⟩ (k0 <|
       k4 <|
       k5 <|
       zz 52 (xnT hy17) <|
       ww (qa_ rwf_iiiiiiLu x0 35) <|
       ee) (by kernel_rfl)
   ·rw[if_neg hy5] at h
    have k4:=fun {A L l} (k:PL A L l)=>zz 16 (xdF hy5) <|
     k
    by_cases hy6:((((y4_.2.2.2.2.2.2.1)).l.length:Nat):Int) > 0
    ·rw[if_pos hy6] at h
     obtain⟨hy7,h⟩:=gd h
     obtain⟨hy8,h⟩:=gd h
     obtain rfl:=oI h
     obtain⟨za,zt,hz⟩:∃ a t,((List.take x3 (x2a::x2t)) ++ [(x5,(0:Int),(y4_.2.2.1))])=a::t:=qr1_ (List.take x3 (x2a::x2t)) (x5,(0:Int),(y4_.2.2.1))
     rw[hz]
     try rw[hz] at k0
     try rw[hz] at k4
     exact runC2 hm ⟨[0,3,8,9,10],[(0,0,true),(1,4,true)],2,1,[],false,[],[],[]⟩ (k0 <|
      k4 <|
      zz 22 (xdT hy6) <|
      yy 30 (.app ⟨none,rows qgp_ (List.take x3 (x2a::x2t)),(rows qgp_ (za::zt)),((za::zt)).length,false⟩) <|
      ww (p:=0<1) ((by decide)) <|
      ww (p:=rdT (layT (rows qgp_ (x2a::x2t))) (Nat.mul x3 3) 0=some (rows qgp_ (List.take x3 (x2a::x2t)))) (qqt_ qhr_ _ _ hy7) <|
      ww (p:=fits (Nat.add x3 1) 24=true) (qk3_ hy8 (by have:=hy8; show (_:Nat)+_≤_; omega)) <|
      ww (p:=qbc_ [(i6 x5),(i6 (0:Int)),(i6 (y4_.2.2.1))]=true) (rfl) <|
      ww (p:=qbc_ (rows qgp_ (List.take x3 (x2a::x2t)))=true) (qlx_ qhr_ _) <|
      ww (p:=rows qgp_ (List.take x3 (x2a::x2t)) ++ [(i6 x5),(i6 (0:Int)),(i6 (y4_.2.2.1))]=(rows qgp_ (za::zt))) (by rw[←hz]; exact (qth_ qgp_ (List.take x3 (x2a::x2t)) [(x5,(0:Int),(y4_.2.2.1))])) <|
      ww (p:=Nat.add x3 1=((za::zt)).length) (by rw[←hz]; exact (qv6_ hy7 rfl)) <|
      ww (qa_ rwf_iiiiiiLu x0 35) <|
      ww (qa_ qhr_ (za::zt) 183) <|
      ee) (by kernel_rfl)
    ·rw[if_neg hy6] at h
     obtain rfl:=oI h
     exact runC2 hm ⟨[0,3,8,9,10],[(0,0,true),(1,1,true)],2,1,[],false,[],[],[]⟩ (k0 <|
      k4 <|
      zz 22 (xdF hy6) <|
      ww (qa_ rwf_iiiiiiLu x0 35) <|
      ww (qa_ qhr_ (x2a::x2t) 183) <|
      ee) (by kernel_rfl)
  ·rw[if_neg hy1] at h
   obtain rfl:=oI h
   exact runC2 hm ⟨[3],[(0,0,true),(1,1,true)],2,1,[],false,[],[],[]⟩ (zz 1 (xdF hy1) <|
    ww (qa_ rwf_iiiiiiLu x0 35) <|
    ww (qa_ qhr_ (x2a::x2t) 183) <|
    ee) (by kernel_rfl)
theorem qg1_ (n:Nat){rnd:Option Nat}(x0:List R8)(x1:Nat)(x4:Int)(st:List (Int×Int×Int)×Nat×Int)(r:(Unit) ⊕ (List (Int×Int×Int)×Nat))(h:qgy_ n x0 x1 x4 st=some r):CG P rnd (fnN P 63) 1 (qo_ P 63 [false,true,false,true,true]) (qe0_ x0 x1 x4 st) (qb0_ x0 x1 x4 r):=
 CG.iter (b:=qo_ P 63 [false,false,true,false,true,true]) (by kernel_rfl) (body:=qi_ n x0 x1 x4) (S:=qe0_ x0 x1 x4) (X:=qb0_ x0 x1 x4)
  (fun s s' h=>qmw_ n x0 x1 x4 s (.inl s') h)
  (fun s r h=>qmw_ n x0 x1 x4 s (.inr r) h)
  (fun r=>by intro hx; rcases r with _ | _<;>cases hx) h
def qgq_ (n:Nat)(a0:List R8)(a1:Nat):Option (Bool):=
 match qgy_ n a0 a1 ((a1:Nat):Int) (([]:List (Int×Int×Int)),0,0) with
 | none=>none
 | some (.inl _)=>
  some false
 | some (.inr (c1_0,c1_1))=>
  match c1_0 with
  | []=>
   some true
  | c1_0a::c1_0t=>
   if ((c1_1:Nat):Int)=0 then
    some true
   else
    some false
theorem qqu_ (n:Nat)(a0:List R8)(a1:Nat)(r:Bool)(h:qgq_ n a0 a1=some r):Gv P (.func 63) (qol_ a0 a1) (qom_ a0 a1) (qlb_ a0 a1 r) (qlc_ a0 a1 r):=by
 unfold qgq_ at h
 rcases hc1:qgy_ n a0 a1 ((a1:Nat):Int) (([]:List (Int×Int×Int)),0,0) with _ | (⟨⟩ | ⟨c1_0,c1_1⟩)
 ·rw[hc1] at h; cases h
 ·rw[hc1] at h
  dsimp only at h
  obtain rfl:=oI h
  exact runF2 hm ⟨[2],[],1,1,[],false,[],[],[]⟩ (ww (qg1_ n (rnd:=none) a0 a1 ((a1:Nat):Int) (([]:List (Int×Int×Int)),0,0) (.inl ()) hc1) <|
   ww (qa_ rwf_iiiiiiLu a0 35) <|
   ll 10 ⟨⟨[0,3,8,9,10],[(0,0,true)],2,1,[],false,[],[],[]⟩,(qb0_ a0 a1 ((a1:Nat):Int) (.inl ())).1,(qb0_ a0 a1 ((a1:Nat):Int) (.inl ())).2⟩ <|
   ee) (by kernel_rfl)
 ·rw[hc1] at h
  dsimp only at h
  cases c1_0 with
  | nil=>
   dsimp only at h
   obtain rfl:=oI h
   exact runF2 hm ⟨[2],[],1,1,[],false,[],[],[]⟩ (ww (qg1_ n (rnd:=none) a0 a1 ((a1:Nat):Int) (([]:List (Int×Int×Int)),0,0) (.inr (([]:List (Int×Int×Int)),c1_1)) hc1) <|
    ww (qa_ rwf_iiiiiiLu a0 35) <|
    ll 10 ⟨⟨[0,3,8,9,10],[(0,0,true)],2,1,[],false,[],[],[]⟩,(qb0_ a0 a1 ((a1:Nat):Int) (.inr (([]:List (Int×Int×Int)),c1_1))).1,(qb0_ a0 a1 ((a1:Nat):Int) (.inr (([]:List (Int×Int×Int)),c1_1))).2⟩ <|
    ee) (by kernel_rfl)
  | cons c1_0a c1_0t=>
   dsimp only at h
   have k0:=fun {A L l} (k:PL A L l)=>ww (qg1_ n (rnd:=none) a0 a1 ((a1:Nat):Int) (([]:List (Int×Int×Int)),0,0) (.inr ((c1_0a::c1_0t),c1_1)) hc1) <|
    ww (qa_ rwf_iiiiiiLu a0 35) <|
    ll 10 ⟨⟨[0,3,8,9,10],[(0,0,true)],2,1,[],false,[],[],[]⟩,(qb0_ a0 a1 ((a1:Nat):Int) (.inr ((c1_0a::c1_0t),c1_1))).1,(qb0_ a0 a1 ((a1:Nat):Int) (.inr ((c1_0a::c1_0t),c1_1))).2⟩ <|
    k
   by_cases hc2:((c1_1:Nat):Int)=0
   ·rw[if_pos hc2] at h
    obtain rfl:=oI h
    exact runF2 hm ⟨[2],[],1,1,[],false,[],[],[]⟩ (k0 <|
     zz 14 (xeT hc2) <|
     ee) (by kernel_rfl)
   ·rw[if_neg hc2] at h
    obtain rfl:=oI h
    exact runF2 hm ⟨[2],[],1,1,[],false,[],[],[]⟩ (k0 <|
     zz 14 (xeF hc2) <|
     ee) (by kernel_rfl)


end Go.Proofs.YtleifgniphogeaaGreatDoor.mwh19
