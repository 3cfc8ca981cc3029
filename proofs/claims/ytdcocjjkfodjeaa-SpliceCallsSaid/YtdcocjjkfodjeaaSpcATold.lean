/-
  What functions do, told by pure functions. No condition.
-/
import Derived.Test.YtdcocjjkfodjeaaSpcLives
set_option linter.unusedSimpArgs false
set_option linter.unusedVariables false
set_option linter.unusedSectionVars false
set_option linter.unnecessarySimpa false
set_option maxRecDepth 100000
noncomputable section
namespace Go.Proofs.Ytdcocjjkfodjeaa.spc20
open Go Go.Proofs.Ytdcocjjkfodjeaa Ax
abbrev R8 [Nest]:Type:=Int×Int×Int×Int×Int×Int×NL×Int
variable [Args]
abbrev W8:Type:=WL rw_iiiiiiLu
def kW (s:List Nat)(b:List (Nat×Nat×Bool))(n l:Nat):WkS:=⟨s,b,n,l,[],false,[],[],[]⟩
def iD (n:Nat):List (Nat×Nat×Bool):=(List.range n).map fun i=>(i,i,false)
def cB (l:List Value)(t:TypeId):Option ABlk:=some (.cells (layT l) t)
def qh2_ (x:Int×Int×Int):List Value:=[Value.int .i64 (x.1),Value.int .i64 (x.2.1),Value.int .i64 (x.2.2)]
theorem qi6_:RowF qh2_ 3:=⟨fun _=>rfl,fun a v h=>by
 simp only[qh2_,List.mem_cons,List.not_mem_nil,or_false] at h
 rcases h with rfl | rfl | rfl<;>rfl,fun _=>rfl⟩
theorem qc_:∀ a,okVs (rw_iiiiiiLu a)=true:=fun _=>rfl
abbrev xp1 (b o n k:Nat)(i:Int):Prop:=IA P 22 (sW b o n k) i (pW b (Nat.add o (i.toNat*8)))
theorem xk1 (b o k:Nat){n:Nat}{i:Int}(h:0≤i∧i<(n:Int)):OB (.pur (pW b (Nat.add o (i.toNat*8)))) (xp1 b o n k i):=⟨ixWO (e:=46) (by kernel_rfl) (by kernel_rfl) h⟩
abbrev lp2 (x:W8)(i:Nat)(r:R8):Prop:=Lg P 46 (pW x.num (Nat.add x.off (i*8))) (Value.agg #[(i6 (r.1)),(i6 (r.2.1)),(i6 (r.2.2.1)),(i6 (r.2.2.2.1)),(i6 (r.2.2.2.2.1)),(i6 (r.2.2.2.2.2.1)),(nlV (r.2.2.2.2.2.2.1)),(Value.int .u64 (r.2.2.2.2.2.2.2))])
theorem lk2 {x:W8}{i:Nat}{r:Int×Int×Int×Int×Int×Int×NL×Int}(hr:some ((x.l).getD i (0,0,0,0,0,0,nl0,0))=some r)(h:i<(x.l).length):OB (.ld (Value.agg #[(i6 (r.1)),(i6 (r.2.1)),(i6 (r.2.2.1)),(i6 (r.2.2.2.1)),(i6 (r.2.2.2.2.1)),(i6 (r.2.2.2.2.2.1)),(nlV (r.2.2.2.2.2.2.1)),(Value.int .u64 (r.2.2.2.2.2.2.2))])) (lp2 x i r):=by cases hr; exact⟨ldRA rwf_iiiiiiLu (0,0,0,0,0,0,nl0,0) (i:=i) (q:=0) x (n:=8) (Nat.add x.off (i*8)) rfl (by kernel_rfl) (by kernel_rfl) h (by decide) (by decide) rfl⟩
abbrev xp3 (b n k:Nat)(i:Int):Prop:=IA P 22 (sN b 0 n k) i (pN b (i.toNat*8))
theorem xk3 (b k:Nat){n:Nat}{i:Int}(h:0≤i∧i<(n:Int)):OB (.pur (pN b (i.toNat*8))) (xp3 b n k i):=⟨ixS (e:=46) (by kernel_rfl) (by kernel_rfl) h.1 h.2⟩
abbrev op4 (L:List R8)(i:Nat)(r:R8):Prop:=(layT (rows rw_iiiiiiLu L)).get (Nat.add (i*8) 6)=some (nlV (r.2.2.2.2.2.2.1))
theorem ok4 {L:List R8}{i:Nat}{r:Int×Int×Int×Int×Int×Int×NL×Int}(hr:some (L.getD i (0,0,0,0,0,0,nl0,0))=some r)(h:i<L.length):OB (.ld (nlV (r.2.2.2.2.2.2.1))) (op4 L i r):=by cases hr; exact⟨qz4_ rwf_iiiiiiLu (0,0,0,0,0,0,nl0,0) (i:=i) (j:=6) (Nat.add (i*8) 6) rfl h (by decide) rfl⟩
theorem qmn_ {α:Type}{x v:α}{l:List α}{n:Nat}:∃ a t,(x::l).set n v=a::t:=by cases n<;>exact⟨_,_,rfl⟩
abbrev xp5 (b n k:Nat)(i:Int):Prop:=IA P 71 (sN b 0 n k) i (pN b (i.toNat*3))
theorem xk5 (b k:Nat){n:Nat}{i:Int}(h:0≤i∧i<(n:Int)):OB (.pur (pN b (i.toNat*3))) (xp5 b n k i):=⟨ixS (e:=74) (by kernel_rfl) (by kernel_rfl) h.1 h.2⟩
abbrev op6 (L:List (Int×Int×Int))(i:Nat)(r:Int×Int×Int):Prop:=(layT (rows qh2_ L)).get (Nat.add (i*3) 0)=some (i6 (r.1))
theorem ok6 {L:List (Int×Int×Int)}{i:Nat}{r:Int×Int×Int}(hr:some (L.getD i (0,0,0))=some r)(h:i<L.length):OB (.ld (i6 (r.1))) (op6 L i r):=by cases hr; exact⟨qz4_ qi6_ (0,0,0) (i:=i) (j:=0) (Nat.add (i*3) 0) rfl h (by decide) rfl⟩
abbrev op7 (L:List (Int×Int×Int))(i:Nat)(r:Int×Int×Int):Prop:=(layT (rows qh2_ L)).get (Nat.add (i*3) 1)=some (i6 (r.2.1))
theorem ok7 {L:List (Int×Int×Int)}{i:Nat}{r:Int×Int×Int}(hr:some (L.getD i (0,0,0))=some r)(h:i<L.length):OB (.ld (i6 (r.2.1))) (op7 L i r):=by cases hr; exact⟨qz4_ qi6_ (0,0,0) (i:=i) (j:=1) (Nat.add (i*3) 1) rfl h (by decide) rfl⟩
abbrev xp8 (b o n k:Nat)(i:Int):Prop:=IA P 26 (sW b o n k) i (pW b (Nat.add o i.toNat))
theorem xk8 (b o k:Nat){n:Nat}{i:Int}(h:0≤i∧i<(n:Int)):OB (.pur (pW b (Nat.add o i.toNat))) (xp8 b o n k i):=⟨ixWO1 (e:=3) (by kernel_rfl) (by kernel_rfl) h⟩
theorem nk9 {x:NL}{i:Nat}{v:Int}(hv:some (x.l.getD i 0)=some v)(h:i<x.l.length):OB (.ld (i6 v)) (Lg P 3 (pW (Nat.add x.num 64) (Nat.add x.off i)) (i6 v)):=by cases hv; exact⟨ldN x (by kernel_rfl) h⟩
abbrev op10 (L:List (Int×Int×Int))(i:Nat)(r:Int×Int×Int):Prop:=(layT (rows qh2_ L)).get (Nat.add (i*3) 2)=some (i6 (r.2.2))
theorem ok10 {L:List (Int×Int×Int)}{i:Nat}{r:Int×Int×Int}(hr:some (L.getD i (0,0,0))=some r)(h:i<L.length):OB (.ld (i6 (r.2.2))) (op10 L i r):=by cases hr; exact⟨qz4_ qi6_ (0,0,0) (i:=i) (j:=2) (Nat.add (i*3) 2) rfl h (by decide) rfl⟩
theorem q1f_ {α:Type}(l:List α)(x:α):∃ a t,l ++ [x]=a::t:=by
 cases l with
 | nil=>exact⟨_,_,rfl⟩
 | cons a t=>exact⟨_,_,rfl⟩
abbrev fp11 (b o:Nat):Prop:=FA P 46 (pW b o) 6 (pW b (Nat.add o 6))
theorem fk11 (b o:Nat):OB (.pur (pW b (Nat.add o 6))) (fp11 b o):=⟨by unfold fp11 FA; kernel_rfl⟩
abbrev lp12 (x:W8)(i:Nat)(r:R8):Prop:=Lg P 26 (pW x.num (Nat.add (Nat.add x.off (i*8)) 6)) (nlV (r.2.2.2.2.2.2.1))
theorem lk12 {x:W8}{i:Nat}{r:Int×Int×Int×Int×Int×Int×NL×Int}(hr:some ((x.l).getD i (0,0,0,0,0,0,nl0,0))=some r)(h:i<(x.l).length):OB (.ld (nlV (r.2.2.2.2.2.2.1))) (lp12 x i r):=by cases hr; exact⟨ldRS rwf_iiiiiiLu (0,0,0,0,0,0,nl0,0) (i:=i) (q:=6) x (Nat.add (Nat.add x.off (i*8)) 6) rfl (by kernel_rfl) h (by decide) rfl⟩
abbrev xp13 (b n k:Nat)(i:Int):Prop:=IA P 26 (sN b 0 n k) i (pN b i.toNat)
theorem xk13 (b k:Nat){n:Nat}{i:Int}(h:0≤i∧i<(n:Int)):OB (.pur (pN b i.toNat)) (xp13 b n k i):=⟨ixS1 (e:=3) (by kernel_rfl) (by kernel_rfl) h⟩
abbrev xp14 (b o n k:Nat)(i:Int):Prop:=IA P 23 (sW b o n k) i (pW b (Nat.add o (i.toNat*5)))
theorem xk14 (b o k:Nat){n:Nat}{i:Int}(h:0≤i∧i<(n:Int)):OB (.pur (pW b (Nat.add o (i.toNat*5)))) (xp14 b o n k i):=⟨ixWO (e:=35) (by kernel_rfl) (by kernel_rfl) h⟩
abbrev lp15 (x:WL rw_iiiii)(i:Nat)(r:Int×Int×Int×Int×Int):Prop:=Lg P 35 (pW x.num (Nat.add x.off (i*5))) (Value.agg #[(i6 (r.1)),(i6 (r.2.1)),(i6 (r.2.2.1)),(i6 (r.2.2.2.1)),(i6 (r.2.2.2.2))])
theorem lk15 {x:WL rw_iiiii}{i:Nat}{r:Int×Int×Int×Int×Int}(hr:some ((x.l).getD i (0,0,0,0,0))=some r)(h:i<(x.l).length):OB (.ld (Value.agg #[(i6 (r.1)),(i6 (r.2.1)),(i6 (r.2.2.1)),(i6 (r.2.2.2.1)),(i6 (r.2.2.2.2))])) (lp15 x i r):=by cases hr; exact⟨ldRA rwf_iiiii (0,0,0,0,0) (i:=i) (q:=0) x (n:=5) (Nat.add x.off (i*5)) rfl (by kernel_rfl) (by kernel_rfl) h (by decide) (by decide) rfl⟩
abbrev fp16 (b o:Nat):Prop:=FA P 46 (pW b o) 2 (pW b (Nat.add o 2))
theorem fk16 (b o:Nat):OB (.pur (pW b (Nat.add o 2))) (fp16 b o):=⟨by unfold fp16 FA; kernel_rfl⟩
abbrev lp17 (x:W8)(i:Nat)(r:R8):Prop:=Lg P 3 (pW x.num (Nat.add (Nat.add x.off (i*8)) 2)) (i6 (r.2.2.1))
theorem lk17 {x:W8}{i:Nat}{r:Int×Int×Int×Int×Int×Int×NL×Int}(hr:some ((x.l).getD i (0,0,0,0,0,0,nl0,0))=some r)(h:i<(x.l).length):OB (.ld (i6 (r.2.2.1))) (lp17 x i r):=by cases hr; exact⟨ldRS rwf_iiiiiiLu (0,0,0,0,0,0,nl0,0) (i:=i) (q:=2) x (Nat.add (Nat.add x.off (i*8)) 2) rfl (by kernel_rfl) h (by decide) rfl⟩
abbrev fp18 (b o:Nat):Prop:=FA P 46 (pW b o) 4 (pW b (Nat.add o 4))
theorem fk18 (b o:Nat):OB (.pur (pW b (Nat.add o 4))) (fp18 b o):=⟨by unfold fp18 FA; kernel_rfl⟩
abbrev lp19 (x:W8)(i:Nat)(r:R8):Prop:=Lg P 3 (pW x.num (Nat.add (Nat.add x.off (i*8)) 4)) (i6 (r.2.2.2.2.1))
theorem lk19 {x:W8}{i:Nat}{r:Int×Int×Int×Int×Int×Int×NL×Int}(hr:some ((x.l).getD i (0,0,0,0,0,0,nl0,0))=some r)(h:i<(x.l).length):OB (.ld (i6 (r.2.2.2.2.1))) (lp19 x i r):=by cases hr; exact⟨ldRS rwf_iiiiiiLu (0,0,0,0,0,0,nl0,0) (i:=i) (q:=4) x (Nat.add (Nat.add x.off (i*8)) 4) rfl (by kernel_rfl) h (by decide) rfl⟩
abbrev op20 (L:List R8)(i:Nat)(r:R8):Prop:=(layT (rows rw_iiiiiiLu L)).get (Nat.add (i*8) 7)=some (Value.int .u64 (r.2.2.2.2.2.2.2))
theorem ok20 {L:List R8}{i:Nat}{r:Int×Int×Int×Int×Int×Int×NL×Int}(hr:some (L.getD i (0,0,0,0,0,0,nl0,0))=some r)(h:i<L.length):OB (.ld (Value.int .u64 (r.2.2.2.2.2.2.2))) (op20 L i r):=by cases hr; exact⟨qz4_ rwf_iiiiiiLu (0,0,0,0,0,0,nl0,0) (i:=i) (j:=7) (Nat.add (i*8) 7) rfl h (by decide) rfl⟩
abbrev fp21 (b o:Nat):Prop:=FA P 46 (pW b o) 1 (pW b (Nat.add o 1))
theorem fk21 (b o:Nat):OB (.pur (pW b (Nat.add o 1))) (fp21 b o):=⟨by unfold fp21 FA; kernel_rfl⟩
abbrev lp22 (x:W8)(i:Nat)(r:R8):Prop:=Lg P 3 (pW x.num (Nat.add (Nat.add x.off (i*8)) 1)) (i6 (r.2.1))
theorem lk22 {x:W8}{i:Nat}{r:Int×Int×Int×Int×Int×Int×NL×Int}(hr:some ((x.l).getD i (0,0,0,0,0,0,nl0,0))=some r)(h:i<(x.l).length):OB (.ld (i6 (r.2.1))) (lp22 x i r):=by cases hr; exact⟨ldRS rwf_iiiiiiLu (0,0,0,0,0,0,nl0,0) (i:=i) (q:=1) x (Nat.add (Nat.add x.off (i*8)) 1) rfl (by kernel_rfl) h (by decide) rfl⟩
abbrev fp23 (b o:Nat):Prop:=FA P 46 (pW b o) 0 (pW b (Nat.add o 0))
theorem fk23 (b o:Nat):OB (.pur (pW b (Nat.add o 0))) (fp23 b o):=⟨by unfold fp23 FA; kernel_rfl⟩
abbrev lp24 (x:W8)(i:Nat)(r:R8):Prop:=Lg P 3 (pW x.num (Nat.add (Nat.add x.off (i*8)) 0)) (i6 (r.1))
theorem lk24 {x:W8}{i:Nat}{r:Int×Int×Int×Int×Int×Int×NL×Int}(hr:some ((x.l).getD i (0,0,0,0,0,0,nl0,0))=some r)(h:i<(x.l).length):OB (.ld (i6 (r.1))) (lp24 x i r):=by cases hr; exact⟨ldRS rwf_iiiiiiLu (0,0,0,0,0,0,nl0,0) (i:=i) (q:=0) x (Nat.add (Nat.add x.off (i*8)) 0) rfl (by kernel_rfl) h (by decide) rfl⟩
abbrev fp25 (b o:Nat):Prop:=FA P 46 (pW b o) 7 (pW b (Nat.add o 7))
theorem fk25 (b o:Nat):OB (.pur (pW b (Nat.add o 7))) (fp25 b o):=⟨by unfold fp25 FA; kernel_rfl⟩
abbrev lp26 (x:W8)(i:Nat)(r:R8):Prop:=Lg P 41 (pW x.num (Nat.add (Nat.add x.off (i*8)) 7)) (Value.int .u64 (r.2.2.2.2.2.2.2))
theorem lk26 {x:W8}{i:Nat}{r:Int×Int×Int×Int×Int×Int×NL×Int}(hr:some ((x.l).getD i (0,0,0,0,0,0,nl0,0))=some r)(h:i<(x.l).length):OB (.ld (Value.int .u64 (r.2.2.2.2.2.2.2))) (lp26 x i r):=by cases hr; exact⟨ldRS rwf_iiiiiiLu (0,0,0,0,0,0,nl0,0) (i:=i) (q:=7) x (Nat.add (Nat.add x.off (i*8)) 7) rfl (by kernel_rfl) h (by decide) rfl⟩
abbrev fp27 (b o:Nat):Prop:=FA P 35 (pW b o) 0 (pW b (Nat.add o 0))
theorem fk27 (b o:Nat):OB (.pur (pW b (Nat.add o 0))) (fp27 b o):=⟨by unfold fp27 FA; kernel_rfl⟩
abbrev lp28 (x:WL rw_iiiii)(i:Nat)(r:Int×Int×Int×Int×Int):Prop:=Lg P 3 (pW x.num (Nat.add (Nat.add x.off (i*5)) 0)) (i6 (r.1))
theorem lk28 {x:WL rw_iiiii}{i:Nat}{r:Int×Int×Int×Int×Int}(hr:some ((x.l).getD i (0,0,0,0,0))=some r)(h:i<(x.l).length):OB (.ld (i6 (r.1))) (lp28 x i r):=by cases hr; exact⟨ldRS rwf_iiiii (0,0,0,0,0) (i:=i) (q:=0) x (Nat.add (Nat.add x.off (i*5)) 0) rfl (by kernel_rfl) h (by decide) rfl⟩

def qmo_ (n:Nat):Option Unit:=some ()
theorem qqb_ (n:Nat)(r:Unit)(h:qmo_ n=some r):Gv P (.func 4) [] Ax.h0 (.bool true) Ax.h0:=lives_gv

def qiq_ (a0:W8)(a1:Int)(r:Bool):Value:=match r with
 | o0=>(bO o0)
def qir_ (a0:W8)(a1:Int)(r:Bool):AH:=match r with
 | o0=>⟨sB [],0,0⟩
abbrev qoq_ (a0:W8)(a1:Int)(r:Bool):Prop:=Gv P (.func 23) [(wlV a0),(i6 a1)] ⟨sB [],0,0⟩ (qiq_ a0 a1 r) (qir_ a0 a1 r)
abbrev qis_ (a0:W8)(a1:Int)(r:Bool)(ins outs:BL):CallA:=⟨0,ins,qiq_ a0 a1 r,qir_ a0 a1 r,outs⟩
def qdn_ (x0:W8)(x1:Int)(st:Int×Int):XSt:=match st with
 | (x2,x3)=>(sT 66 [(0,(wlV x0)),(1,(i6 x1)),(5,(i6 x2)),(6,(i6 x3))],[],⟨sB [],0,0⟩)
def qba_ (x0:W8)(x1:Int)(r:(Unit) ⊕ (Int)):Ex×XSt:=match r with
 | .inl _=>(.ret,(sT 66 [(4,(bO false))],[],⟨sB [],0,0⟩))
 | .inr z0=>(.exit 0,(sT 66 [(0,(wlV x0)),(1,(i6 x1)),(5,(i6 z0))],[],⟨sB [],0,0⟩))
abbrev qnj_ (rnd:Option Nat)(x0:W8)(x1:Int)(st:Int×Int)(c:Ex×XSt):Prop:=CG P rnd (fnN P 23) 0 (qp_ P 23 [false,false,true,false,true,true]) (qdn_ x0 x1 st) c
abbrev qnk_ (rd:Option Nat)(x0:W8)(x1:Int)(st:Int×Int)(r:(Unit) ⊕ (Int)):Prop:=CG P rd (fnN P 23) 0 (qp_ P 23 [false,true,false,true,true]) (qdn_ x0 x1 st) (qba_ x0 x1 r)
def qbo_ (n:Nat)(x0:W8)(x1:Int)(st:Int×Int):Option ((Int×Int) ⊕ ((Unit) ⊕ (Int))):=match st with
 | (x2,x3)=>
  if x3<(((x0).l.length:Nat):Int) then
   if x3≤x1 then
    if 0≤x3∧x3<(((x0).l.length:Nat):Int) then
     ((some (((x0).l).getD (x3).toNat (0,0,0,0,0,0,nl0,0)))).bind fun y4_=>
     ((some (w64 (x2+((((y4_.2.2.2.2.2.2.1)).l.length:Nat):Int))))).bind fun y5_=>
     if (y4_.2.2.1) > 1048576 then
      some (.inr (.inl ()))
     else
      if (y4_.2.2.2.2.1) > 1048576 then
       some (.inr (.inl ()))
      else
       if (y4_.2.2.2.2.2.1) > 1048576 then
        some (.inr (.inl ()))
       else
        if (y4_.2.2.1)<(-1048576:Int) then
         some (.inr (.inl ()))
        else
         if (y4_.2.2.2.2.1)<(-1048576:Int) then
          some (.inr (.inl ()))
         else
          if (y4_.2.2.2.2.2.1)<(-1048576:Int) then
           some (.inr (.inl ()))
          else
           some (.inl (y5_,(w64 (x3+1))))
    else none
   else
    some (.inr (.inr x2))
  else
   some (.inr (.inr x2))
def qdo_ (n:Nat)(x0:W8)(x1:Int)(st:Int×Int):Option ((Unit) ⊕ (Int)):=iterM (qbo_ n x0 x1) n st
theorem qhu_ (n:Nat){rnd:Option Nat}(x0:W8)(x1:Int)(st:Int×Int)(o:(Int×Int) ⊕ ((Unit) ⊕ (Int)))(h:qbo_ n x0 x1 st=some o):qnj_ rnd x0 x1 st (Sum.elim (fun s=>(.normal,qdn_ x0 x1 s)) (fun r=>qba_ x0 x1 r) o):=by
 obtain⟨x2,x3⟩:=st
 unfold qbo_ at h
 dsimp only at h
 by_cases hy1:x3<(((x0).l.length:Nat):Int)
 ·rw[if_pos hy1] at h
  have k0:=fun {A L l} (k:PL A L l)=>zz 5 (xdT hy1) <|
   k
  by_cases hy2:x3≤x1
  ·rw[if_pos hy2] at h
   obtain⟨hy3,h⟩:=gd h
   obtain⟨y4_,hy4,h⟩:=oB h
   obtain⟨y5_,hy5,h⟩:=oB h
   have k1:=fun {A L l} (k:PL A L l)=>zz 9 (xdT hy2) <|
    zz 17 (xk1 (x0).num (x0).off (x0).cap hy3) <|
    zz 18 (lk2 hy4 (qj_ hy3)) <|
    zz 26 (xnm hy5) <|
    k
   by_cases hy6:(y4_.2.2.1) > 1048576
   ·rw[if_pos hy6] at h
    obtain rfl:=oI h
    exact runC2 hm (kW [4] [] 0 0) (k0 <|
     k1 <|
     zz 31 (xdT hy6) <|
     ee) (by kernel_rfl)
   ·rw[if_neg hy6] at h
    have k5:=fun {A L l} (k:PL A L l)=>zz 31 (xdF hy6) <|
     k
    by_cases hy7:(y4_.2.2.2.2.1) > 1048576
    ·rw[if_pos hy7] at h
     obtain rfl:=oI h
     exact runC2 hm (kW [4] [] 0 0) (k0 <|
      k1 <|
      k5 <|
      zz 35 (xdT hy7) <|
      ee) (by kernel_rfl)
    ·rw[if_neg hy7] at h
     have k6:=fun {A L l} (k:PL A L l)=>zz 35 (xdF hy7) <|
      k
     by_cases hy8:(y4_.2.2.2.2.2.1) > 1048576
     ·rw[if_pos hy8] at h
      obtain rfl:=oI h
      exact runC2 hm (kW [4] [] 0 0) (k0 <|
       k1 <|
       k5 <|
       k6 <|
       zz 40 (xdT hy8) <|
       ee) (by kernel_rfl)
     ·rw[if_neg hy8] at h
      have k7:=fun {A L l} (k:PL A L l)=>zz 40 (xdF hy8) <|
       k
      by_cases hy9:(y4_.2.2.1)<(-1048576:Int)
      ·rw[if_pos hy9] at h
       obtain rfl:=oI h
       exact runC2 hm (kW [4] [] 0 0) (k0 <|
        k1 <|
        k5 <|
        k6 <|
        k7 <|
        zz 45 (xdT hy9) <|
        ee) (by kernel_rfl)
      ·rw[if_neg hy9] at h
       have k8:=fun {A L l} (k:PL A L l)=>zz 45 (xdF hy9) <|
        k
       by_cases hy10:(y4_.2.2.2.2.1)<(-1048576:Int)
       ·rw[if_pos hy10] at h
        obtain rfl:=oI h
        exact runC2 hm (kW [4] [] 0 0) (k0 <|
         k1 <|
         k5 <|
         k6 <|
         k7 <|
         k8 <|
         zz 50 (xdT hy10) <|
         ee) (by kernel_rfl)
       ·rw[if_neg hy10] at h
        have k9:=fun {A L l} (k:PL A L l)=>zz 50 (xdF hy10) <|
         k
        by_cases hy11:(y4_.2.2.2.2.2.1)<(-1048576:Int)
        ·rw[if_pos hy11] at h
         obtain rfl:=oI h
         exact runC2 hm (kW [4] [] 0 0) (k0 <|
          k1 <|
          k5 <|
          k6 <|
          k7 <|
          k8 <|
          k9 <|
          zz 55 (xdT hy11) <|
          ee) (by kernel_rfl)
        ·rw[if_neg hy11] at h
         obtain rfl:=oI h
         exact runC2 hm (kW [0,1,5,6] [] 0 0) (k0 <|
          k1 <|
          k5 <|
          k6 <|
          k7 <|
          k8 <|
          k9 <|
          zz 55 (xdF hy11) <|
          ee) (by kernel_rfl)
  ·rw[if_neg hy2] at h
   obtain rfl:=oI h
   exact runC2 hm (kW [0,1,5] [] 0 0) (k0 <|
    zz 9 (xdF hy2) <|
    ee) (by kernel_rfl)
 ·rw[if_neg hy1] at h
  obtain rfl:=oI h
  exact runC2 hm (kW [0,1,5] [] 0 0) (zz 5 (xdF hy1) <|
   ee) (by kernel_rfl)
theorem qgq_ (n:Nat){rnd:Option Nat}(x0:W8)(x1:Int)(st:Int×Int)(r:(Unit) ⊕ (Int))(h:qdo_ n x0 x1 st=some r):qnk_ rnd x0 x1 st r:=
 CG.iter (b:=qp_ P 23 [false,false,true,false,true,true]) (by kernel_rfl) (body:=qbo_ n x0 x1) (S:=qdn_ x0 x1) (X:=qba_ x0 x1)
  (fun s s' h=>qhu_ n x0 x1 s (.inl s') h)
  (fun s r h=>qhu_ n x0 x1 s (.inr r) h)
  (fun r=>by intro hx; rcases r with _ | _<;>cases hx) h
def q6_ (n:Nat)(a0:W8)(a1:Int):Option (Bool):=
 match qdo_ n a0 a1 (0,0) with
 | none=>none
 | some (.inl _)=>
  some false
 | some (.inr c1_)=>
  if (((a0).l.length:Nat):Int)≤a1 then
   if c1_≤(w64 ((2:Int)*a1)) then
    some true
   else
    some false
  else
   some false
theorem qg8_ (n:Nat)(a0:W8)(a1:Int)(r:Bool)(h:q6_ n a0 a1=some r):qoq_ a0 a1 r:=by
 unfold q6_ at h
 rcases hc1:qdo_ n a0 a1 (0,0) with _ | (⟨⟩ | c1_)
 ·rw[hc1] at h; cases h
 ·rw[hc1] at h
  dsimp only at h
  obtain rfl:=oI h
  exact runF2 hm (kW [4] [] 0 0) (ww (qgq_ n (rnd:=none) a0 a1 (0,0) (.inl ()) hc1) <|
   ll 8 ⟨(kW [0,1,5,6] [] 0 0),(qba_ a0 a1 (.inl ())).1,(qba_ a0 a1 (.inl ())).2⟩ <|
   ee) (by kernel_rfl)
 ·rw[hc1] at h
  dsimp only at h
  have k0:=fun {A L l} (k:PL A L l)=>ww (qgq_ n (rnd:=none) a0 a1 (0,0) (.inr c1_) hc1) <|
   ll 8 ⟨(kW [0,1,5,6] [] 0 0),(qba_ a0 a1 (.inr c1_)).1,(qba_ a0 a1 (.inr c1_)).2⟩ <|
   k
  by_cases hc2:(((a0).l.length:Nat):Int)≤a1
  ·rw[if_pos hc2] at h
   have k2:=fun {A L l} (k:PL A L l)=>zz 13 (xdT hc2) <|
    k
   by_cases hc3:c1_≤(w64 ((2:Int)*a1))
   ·rw[if_pos hc3] at h
    obtain rfl:=oI h
    exact runF2 hm (kW [4] [] 0 0) (k0 <|
     k2 <|
     zz 18 (xdT hc3) <|
     ee) (by kernel_rfl)
   ·rw[if_neg hc3] at h
    obtain rfl:=oI h
    exact runF2 hm (kW [4] [] 0 0) (k0 <|
     k2 <|
     zz 18 (xdF hc3) <|
     ee) (by kernel_rfl)
  ·rw[if_neg hc2] at h
   obtain rfl:=oI h
   exact runF2 hm (kW [4] [] 0 0) (k0 <|
    zz 13 (xdF hc2) <|
    ee) (by kernel_rfl)

def qrb_ (a0 a1:W8)(a2:WL rw_iiiii):List Value:=[(wlV a0),(wlV a1),(wlV a2)]
def qkl_ (a0 a1:W8)(a2:WL rw_iiiii)(r:Bool):Value:=match r with
 | o0=>(bO o0)
def qkm_ (a0 a1:W8)(a2:WL rw_iiiii)(r:Bool):AH:=match r with
 | o0=>⟨sB [],0,0⟩
abbrev qrc_ (a0 a1:W8)(a2:WL rw_iiiii)(r:Bool):Prop:=Gv P (.func 5) (qrb_ a0 a1 a2) ⟨sB [],0,0⟩ (qkl_ a0 a1 a2 r) (qkm_ a0 a1 a2 r)
abbrev qrd_ (a0 a1:W8)(a2:WL rw_iiiii)(r:Bool)(ins outs:BL):CallA:=⟨0,ins,qkl_ a0 a1 a2 r,qkm_ a0 a1 a2 r,outs⟩
def qd5_ (n:Nat)(a0 a1:W8)(a2:WL rw_iiiii):Option (Bool):=
 (q6_ n a0 100).bind fun c1_=>
 if c1_=true then
  (q6_ n a1 100).bind fun c3_=>
  if c3_=true then
   if (((a2).l.length:Nat):Int)≤40 then
    some true
   else
    some false
  else
   some false
 else
  some false
theorem qor_ (n:Nat)(a0 a1:W8)(a2:WL rw_iiiii)(r:Bool)(h:qd5_ n a0 a1 a2=some r):qrc_ a0 a1 a2 r:=by
 unfold qd5_ at h
 obtain⟨c1_,hc1,h⟩:=oB h
 have k0:=fun {A L l} (k:PL A L l)=>yy 4 (.call (qis_ a0 100 c1_ [] [])) <|
  ww (qg8_ n a0 100 c1_ hc1) <|
  k
 by_cases hc2:c1_=true
 ·rw[if_pos hc2] at h
  obtain⟨c3_,hc3,h⟩:=oB h
  have k2:=fun {A L l} (k:PL A L l)=>zz 5 (xbT hc2) <|
   yy 7 (.call (qis_ a1 100 c3_ [] [])) <|
   ww (qg8_ n a1 100 c3_ hc3) <|
   k
  by_cases hc4:c3_=true
  ·rw[if_pos hc4] at h
   have k5:=fun {A L l} (k:PL A L l)=>zz 9 (xbT hc4) <|
    k
   by_cases hc5:(((a2).l.length:Nat):Int)≤40
   ·rw[if_pos hc5] at h
    obtain rfl:=oI h
    exact runF2 hm (kW [6] [] 0 0) (k0 <|
     k2 <|
     k5 <|
     zz 12 (xdT hc5) <|
     ee) (by kernel_rfl)
   ·rw[if_neg hc5] at h
    obtain rfl:=oI h
    exact runF2 hm (kW [6] [] 0 0) (k0 <|
     k2 <|
     k5 <|
     zz 12 (xdF hc5) <|
     ee) (by kernel_rfl)
  ·rw[if_neg hc4] at h
   obtain rfl:=oI h
   exact runF2 hm (kW [6] [] 0 0) (k0 <|
    k2 <|
    zz 9 (xbF hc4) <|
    ee) (by kernel_rfl)
 ·rw[if_neg hc2] at h
  obtain rfl:=oI h
  exact runF2 hm (kW [6] [] 0 0) (k0 <|
   zz 5 (xbF hc2) <|
   ee) (by kernel_rfl)

def qit_ (a0:W8)(r:(List R8) ⊕ (Unit)):Value:=match r with
 | .inl o0=>(sN 0 0 (o0).length (Nat.add big 8))
 | .inr _=>(sN 0 0 0 0)
def qiu_ (a0:W8)(r:(List R8) ⊕ (Unit)):AH:=match r with
 | .inl o0=>⟨sB [(0,(cB (rows rw_iiiiiiLu o0) 46))],1,0⟩
 | .inr _=>⟨sB [(0,(cB [] 46))],1,0⟩
abbrev qos_ (a0:W8)(r:(List R8) ⊕ (Unit)):Prop:=Gv P (.func 31) [(wlV a0)] ⟨sB [],0,0⟩ (qit_ a0 r) (qiu_ a0 r)
abbrev qiv_ (a0:W8)(r:(List R8) ⊕ (Unit))(ins outs:BL):CallA:=⟨0,ins,qit_ a0 r,qiu_ a0 r,outs⟩
def qcb_ (n:Nat)(a0:W8):Option ((List R8) ⊕ (Unit)):=
 if 0<(a0).l.length then
  if (0+(a0).l.length)*80≤140737488355328 then
   if 0<0+(a0).l.length then
    some (.inl (([]:List R8)++(a0).l))
   else none
  else none
 else
  some (.inr ())
theorem qg9_ (n:Nat)(a0:W8)(r:(List R8) ⊕ (Unit))(h:qcb_ n a0=some r):qos_ a0 r:=by
 unfold qcb_ at h
 by_cases hc1:0<(a0).l.length
 ·rw[if_pos hc1] at h
  obtain⟨hc2,h⟩:=gd h
  obtain⟨hc3,h⟩:=gd h
  obtain rfl:=oI h
  exact runF2 hm (kW [2] [(0,1,true)] 1 0) (ww (p:=(a0).l.length=(a0).l.length) (rfl) <|
   ww (p:=((a0).l.length=0∧(rows rw_iiiiiiLu (a0).l)=[])∨∃ y,Tabs.win (a0).num=some y∧rdL y.2.2 (Nat.mul (a0).l.length 8) (a0).off=some (rows rw_iiiiiiLu (a0).l)) (srcR rwf_iiiiiiLu a0) <|
   yy 5 (.app ⟨some ((a0).l.length,(rows rw_iiiiiiLu (a0).l)),([]:List Value),(rows rw_iiiiiiLu (([]:List R8)++(a0).l)),((([]:List R8)++(a0).l)).length,true⟩) <|
   ww (p:=0<(a0).l.length) (hc1) <|
   ww (p:=0<big) ((by decide)) <|
   ww (p:=0<Nat.add 0 (a0).l.length) (hc3) <|
   ww (p:=rdT (layT ([]:List Value)) (Nat.mul 0 8) 0=some (([]:List Value))) (rfl) <|
   ww (p:=fits (Nat.add 0 (a0).l.length) 80=true) (fits_ok hc2 (by have:=hc2; show (_:Nat)+_≤_; omega)) <|
   ww (p:=([]:List Value)++(rows rw_iiiiiiLu (a0).l)=(rows rw_iiiiiiLu (([]:List R8)++(a0).l))) (qij_ rw_iiiiiiLu ([]:List R8) (a0).l) <|
   ww (p:=Nat.add 0 (a0).l.length=((([]:List R8)++(a0).l)).length) (by simp<;>(try simp only[List.length_cons] at *)<;>omega) <|
   ww (qb_ rwf_iiiiiiLu (([]:List R8)++(a0).l) 46) <|
   ee) (by kernel_rfl)
 ·rw[if_neg hc1] at h
  obtain rfl:=oI h
  exact runF2 hm (kW [2] [(0,0,false)] 1 0) (yy 5 (.app0) <|
   ww (p:=0=(a0).l.length) ((by have:=hc1; omega)) <|
   ww (p:=((a0).l.length=0∧([]:List Value)=[])∨∃ y,Tabs.win (a0).num=some y∧rdL y.2.2 (Nat.mul (a0).l.length 8) (a0).off=some ([]:List Value)) (.inl ⟨(by have:=hc1; omega),rfl⟩) <|
   ww (p:=∀ H:AH,qr6_ H 8 46 80 (0,[]) (sN 0 0 0 0)=some ((sN 0 0 0 0),H)) (fun _=>rfl) <|
   ee) (by kernel_rfl)

def qlb_ (a0 r:NL):Value:=match r with
 | o0=>(nlV o0)
def qlc_ (a0 r:NL):AH:=match r with
 | o0=>⟨sB [],0,0⟩
abbrev qr7_ (a0 r:NL):Prop:=Gv P (.func 32) [(nlV a0)] ⟨sB [],0,0⟩ (qlb_ a0 r) (qlc_ a0 r)
abbrev qr8_ (a0 r:NL)(ins outs:BL):CallA:=⟨0,ins,qlb_ a0 r,qlc_ a0 r,outs⟩
def qdg_ (n:Nat)(a0:NL):Option (NL):=
 if 0<(a0).l.length then
  if (0+(a0).l.length)*8≤140737488355328 then
   if 0<0+(a0).l.length then
    if hc4:(([]:List Int)++(a0).l).length≤140737488355328 then
     some (frzL (([]:List Int)++(a0).l) hc4)
    else none
   else none
  else none
 else
  if hc2:[].length≤140737488355328 then
   some (frzL [] hc2)
  else none
theorem qpg_ (n:Nat)(a0 r:NL)(h:qdg_ n a0=some r):qr7_ a0 r:=by
 unfold qdg_ at h
 by_cases hc1:0<(a0).l.length
 ·rw[if_pos hc1] at h
  obtain⟨hc2,h⟩:=gd h
  obtain⟨hc3,h⟩:=gd h
  obtain⟨hc4,h⟩:=gdD h
  obtain rfl:=oI h
  exact runF2 hm ⟨[2],[],0,0,[(1,Nat.add (2*cod (([]:List Int)++(a0).l)+1) 64)],true,[],[],[]⟩ (ww (p:=(a0).l.length=(a0).l.length) (rfl) <|
   ww (p:=((a0).l.length=0∧(iv (a0).l)=[])∨∃ y,Tabs.win (Nat.add (a0).num 64)=some y∧rdL y.2.2 (Nat.mul (a0).l.length 1) (a0).off=some (iv (a0).l)) (srcN a0) <|
   yy 5 (.app ⟨some ((a0).l.length,(iv (a0).l)),([]:List Value),(iv (([]:List Int)++(a0).l)),((([]:List Int)++(a0).l)).length,true⟩) <|
   ww (p:=0<(a0).l.length) (hc1) <|
   ww (p:=0<big) ((by decide)) <|
   ww (p:=0<Nat.add 0 (a0).l.length) (hc3) <|
   ww (p:=rdT (layT ([]:List Value)) (Nat.mul 0 1) 0=some (([]:List Value))) (rfl) <|
   ww (p:=fits (Nat.add 0 (a0).l.length) 8=true) (fits_ok hc2 (by have:=hc2; show (_:Nat)+_≤_; omega)) <|
   ww (p:=([]:List Value)++(iv (a0).l)=(iv (([]:List Int)++(a0).l))) (by simp[iv]) <|
   ww (p:=Nat.add 0 (a0).l.length=((([]:List Int)++(a0).l)).length) (by simp<;>(try simp only[List.length_cons] at *)<;>omega) <|
   ww (qon_ ql_ q2_ (([]:List Int)++(a0).l)) <|
   ee) (by kernel_rfl)
 ·rw[if_neg hc1] at h
  obtain⟨hc2,h⟩:=gdD h
  obtain rfl:=oI h
  exact runF2 hm ⟨[2],[],0,0,[(0,Nat.add (2*cod [] + 1) 64)],true,[],[],[]⟩ (yy 5 (.app0) <|
   ww (p:=0=(a0).l.length) ((by have:=hc1; omega)) <|
   ww (p:=((a0).l.length=0∧([]:List Value)=[])∨∃ y,Tabs.win (Nat.add (a0).num 64)=some y∧rdL y.2.2 (Nat.mul (a0).l.length 1) (a0).off=some ([]:List Value)) (.inl ⟨(by have:=hc1; omega),rfl⟩) <|
   ww (p:=∀ H:AH,qr6_ H 1 3 8 (0,[]) (sN 0 0 0 0)=some ((sN 0 0 0 0),H)) (fun _=>rfl) <|
   ww (qon_ ql_ q2_ []) <|
   ee) (by kernel_rfl)

def qjv_ (a0 r:W8):Value:=match r with
 | o0=>(wlV o0)
def qjw_ (a0 r:W8):AH:=match r with
 | o0=>⟨sB [],0,0⟩
abbrev qqc_ (a0 r:W8):Prop:=Gv P (.func 7) [(wlV a0)] ⟨sB [],0,0⟩ (qjv_ a0 r) (qjw_ a0 r)
abbrev qqd_ (a0 r:W8)(ins outs:BL):CallA:=⟨0,ins,qjv_ a0 r,qjw_ a0 r,outs⟩
def qd7_ (x1:Nat)(st:List R8×Int):XSt:=match st with
 | (x0,x2)=>(sT 24 [(3,(slEQ x0 0 x1 8)),(4,(i6 x2))],[],⟨sB [(0,(cB (rows rw_iiiiiiLu x0) 46))],1,0⟩)
def qn_ (x1:Nat)(r:List R8×Nat):Ex×XSt:=match r with
 | (z0,z1)=>(.exit 0,(sT 24 [(3,(slEQ z0 0 z1 8))],[],⟨sB [(0,(cB (rows rw_iiiiiiLu z0) 46))],1,0⟩))
abbrev qot_ (rnd:Option Nat)(x1:Nat)(st:List R8×Int)(c:Ex×XSt):Prop:=CG P rnd (fnN P 7) 0 (qp_ P 7 [false,false,true,false,true,true]) (qd7_ x1 st) c
abbrev qou_ (rd:Option Nat)(x1:Nat)(st:List R8×Int)(r:List R8×Nat):Prop:=CG P rd (fnN P 7) 0 (qp_ P 7 [false,true,false,true,true]) (qd7_ x1 st) (qn_ x1 r)
def qbj_ (n x1:Nat)(st:List R8×Int):Option ((List R8×Int) ⊕ (List R8×Nat)):=match st with
 | (x0,x2)=>
  match x0 with
  | []=>
   if x2<0 then
    none
   else
    some (.inr (([]:List R8),0))
  | x0a::x0t=>
   if x2<((x1:Nat):Int) then
    if 0≤x2∧x2<((x1:Nat):Int) then
     if (x2).toNat<((x0a::x0t)).length then
      ((some (((x0a::x0t)).getD (x2).toNat (0,0,0,0,0,0,nl0,0)))).bind fun y4_=>
      (qdg_ n (y4_.2.2.2.2.2.2.1)).bind fun y5_=>
      some (.inl ((((x0a::x0t)).set (x2).toNat ((y4_.1),(y4_.2.1),(y4_.2.2.1),(y4_.2.2.2.1),(y4_.2.2.2.2.1),(y4_.2.2.2.2.2.1),y5_,(y4_.2.2.2.2.2.2.2))),(w64 (x2+1))))
     else none
    else none
   else
    some (.inr ((x0a::x0t),x1))
def qd8_ (n x1:Nat)(st:List R8×Int):Option (List R8×Nat):=iterM (qbj_ n x1) n st
theorem qiw_ (n:Nat){rnd:Option Nat}(x1:Nat)(st:List R8×Int)(o:(List R8×Int) ⊕ (List R8×Nat))(h:qbj_ n x1 st=some o):qot_ rnd x1 st (Sum.elim (fun s=>(.normal,qd7_ x1 s)) (fun r=>qn_ x1 r) o):=by
 obtain⟨x0,x2⟩:=st
 unfold qbj_ at h
 dsimp only at h
 cases x0 with
 | nil=>
  dsimp only at h
  by_cases hy1:x2<0
  ·rw[if_pos hy1] at h
   cases h
  ·rw[if_neg hy1] at h
   obtain rfl:=oI h
   exact runC2 hm (kW [3] [(0,0,false)] 1 0) (zz 5 (xdF hy1) <|
    ee) (by kernel_rfl)
 | cons x0a x0t=>
  dsimp only at h
  by_cases hy1:x2<((x1:Nat):Int)
  ·rw[if_pos hy1] at h
   obtain⟨hy2,h⟩:=gd h
   obtain⟨hy3,h⟩:=gd h
   obtain⟨y4_,hy4,h⟩:=oB h
   obtain⟨y5_,hy5,h⟩:=oB h
   obtain rfl:=oI h
   obtain⟨za,zt,hz⟩:∃ a t,(((x0a::x0t)).set (x2).toNat ((y4_.1),(y4_.2.1),(y4_.2.2.1),(y4_.2.2.2.1),(y4_.2.2.2.2.1),(y4_.2.2.2.2.2.1),y5_,(y4_.2.2.2.2.2.2.2)))=a::t:=qmn_
   rw[hz]
   exact runC2 hm (kW [3,4] [(0,0,true)] 1 0) (zz 5 (xdT hy1) <|
    zz 13 (xk3 0 U8 hy2) <|
    zz 15 (ok4 hy4 (hy3)) <|
    yy 16 (.call (qr8_ (y4_.2.2.2.2.2.2.1) y5_ [] [])) <|
    ww (qpg_ n (y4_.2.2.2.2.2.2.1) y5_ hy5) <|
    zz 17 (xk3 0 U8 hy2) <|
    yy 19 (.sto (layT (rows rw_iiiiiiLu (za::zt)))) <|
    ww (p:=∃ old,rdT (layT (rows rw_iiiiiiLu (x0a::x0t))) 1 (Nat.add ((x2).toNat*8) 6)=some old) ((ste (k:=1) (qf9_ rwf_iiiiiiLu (0,0,0,0,0,0,nl0,0) (hr:=hy4) (i:=(x2).toNat) (j:=6) (l:=[(nlV y5_)]) ((y4_.1),(y4_.2.1),(y4_.2.2.1),(y4_.2.2.2.1),(y4_.2.2.2.2.1),(y4_.2.2.2.2.2.1),y5_,(y4_.2.2.2.2.2.2.2)) (Nat.add ((x2).toNat*8) 6) rfl (hy3) (Nat.le_of_ble_eq_true rfl) rfl)).p) <|
    ww (p:=layL [(nlV y5_)] (Nat.add ((x2).toNat*8) 6) (layT (rows rw_iiiiiiLu (x0a::x0t)))=layT (rows rw_iiiiiiLu (za::zt))) (by rw[←hz]; exact (ste (k:=1) (qf9_ rwf_iiiiiiLu (0,0,0,0,0,0,nl0,0) (hr:=hy4) (i:=(x2).toNat) (j:=6) (l:=[(nlV y5_)]) ((y4_.1),(y4_.2.1),(y4_.2.2.1),(y4_.2.2.2.1),(y4_.2.2.2.2.1),(y4_.2.2.2.2.2.1),y5_,(y4_.2.2.2.2.2.2.2)) (Nat.add ((x2).toNat*8) 6) rfl (hy3) (Nat.le_of_ble_eq_true rfl) rfl)).q) <|
    ww (qb_ rwf_iiiiiiLu (za::zt) 46) <|
    ee) (by kernel_rfl)
  ·rw[if_neg hy1] at h
   obtain rfl:=oI h
   exact runC2 hm (kW [3] [(0,0,true)] 1 0) (zz 5 (xdF hy1) <|
    ww (qb_ rwf_iiiiiiLu (x0a::x0t) 46) <|
    ee) (by kernel_rfl)
theorem qc7_ (n:Nat){rnd:Option Nat}(x1:Nat)(st:List R8×Int)(r:List R8×Nat)(h:qd8_ n x1 st=some r):qou_ rnd x1 st r:=
 CG.iter (b:=qp_ P 7 [false,false,true,false,true,true]) (by kernel_rfl) (body:=qbj_ n x1) (S:=qd7_ x1) (X:=qn_ x1)
  (fun s s' h=>qiw_ n x1 s (.inl s') h)
  (fun s r h=>qiw_ n x1 s (.inr r) h)
  (fun r=>by intro hx; cases hx) h
def qct_ (n:Nat)(a0:W8):Option (W8):=
 match qcb_ n a0 with
 | none=>none
 | some (.inl c1_)=>
  match c1_ with
  | []=>
   none
  | c1_a::c1_t=>
   (qd8_ n (((c1_a::c1_t)).length) ((c1_a::c1_t),0)).bind fun t=>match t with
   | (c2_0,c2_1)=>
    match c2_0 with
    | []=>
     if hc3:([]:List R8).length≤9223372036854775807 then
      some (frzR qc_ ([]:List R8) hc3)
     else none
    | c2_0a::c2_0t=>
     if c2_1=(c2_0a::c2_0t).length then
      if hc4:(c2_0a::c2_0t).length≤9223372036854775807 then
       some (frzR qc_ (c2_0a::c2_0t) hc4)
      else none
     else none
 | some (.inr _)=>
  (qd8_ n 0 (([]:List R8),0)).bind fun t=>match t with
  | (c2_0,c2_1)=>
   match c2_0 with
   | []=>
    if hc3:([]:List R8).length≤9223372036854775807 then
     some (frzR qc_ ([]:List R8) hc3)
    else none
   | c2_0a::c2_0t=>
    if c2_1=(c2_0a::c2_0t).length then
     if hc4:(c2_0a::c2_0t).length≤9223372036854775807 then
      some (frzR qc_ (c2_0a::c2_0t) hc4)
     else none
    else none
theorem qn4_ (n:Nat)(a0 r:W8)(h:qct_ n a0=some r):qqc_ a0 r:=by
 unfold qct_ at h
 rcases hc1:qcb_ n a0 with _ | (c1_ | ⟨⟩)
 ·rw[hc1] at h; cases h
 ·rw[hc1] at h
  dsimp only at h
  cases c1_ with
  | nil=>
   dsimp only at h
   cases h
  | cons c1_a c1_t=>
   dsimp only at h
   obtain⟨⟨c2_0,c2_1⟩,hc2,h⟩:=oB h
   dsimp only at h
   have k0:=fun {A L l} (k:PL A L l)=>yy 4 (.call (qiv_ a0 (.inl (c1_a::c1_t)) [] [(0,0,true)])) <|
    ww (qg9_ n a0 (.inl (c1_a::c1_t)) hc1) <|
    ww (qb_ rwf_iiiiiiLu (c1_a::c1_t) 46) <|
    k
   cases c2_0 with
   | nil=>
    dsimp only at h
    obtain⟨hc3,h⟩:=gdD h
    obtain rfl:=oI h
    exact runF2 hm ⟨[2],[],0,0,[(0,Nat.add (2*codL (rows rw_iiiiiiLu ([]:List R8))+1) 64)],true,[],[],[]⟩ (k0 <|
     ww (qc7_ n (rnd:=none) (((c1_a::c1_t)).length) ((c1_a::c1_t),0) (([]:List R8),c2_1) hc2) <|
     ww (qb_ rwf_iiiiiiLu (c1_a::c1_t) 46) <|
     ll 10 ⟨(kW [3,4] [(0,0,true)] 1 0),(qn_ (((c1_a::c1_t)).length) (([]:List R8),c2_1)).1,(qn_ (((c1_a::c1_t)).length) (([]:List R8),c2_1)).2⟩ <|
     ww (qf5_ ql_ q2_ qc_ ([]:List R8)) <|
     ee) (by kernel_rfl)
   | cons c2_0a c2_0t=>
    dsimp only at h
    obtain⟨hc3,h⟩:=gd h
    obtain⟨hc4,h⟩:=gdD h
    obtain rfl:=oI h
    subst hc3
    exact runF2 hm ⟨[2],[],0,0,[(0,Nat.add (2*codL (rows rw_iiiiiiLu (c2_0a::c2_0t))+1) 64)],true,[],[],[]⟩ (k0 <|
     ww (qc7_ n (rnd:=none) (((c1_a::c1_t)).length) ((c1_a::c1_t),0) ((c2_0a::c2_0t),(((c2_0a::c2_0t)).length)) hc2) <|
     ww (qb_ rwf_iiiiiiLu (c1_a::c1_t) 46) <|
     ll 10 ⟨(kW [3,4] [(0,0,true)] 1 0),(qn_ (((c1_a::c1_t)).length) ((c2_0a::c2_0t),(((c2_0a::c2_0t)).length))).1,(qn_ (((c1_a::c1_t)).length) ((c2_0a::c2_0t),(((c2_0a::c2_0t)).length))).2⟩ <|
     ww (qf5_ ql_ q2_ qc_ (c2_0a::c2_0t)) <|
     ee) (by kernel_rfl)
 ·rw[hc1] at h
  dsimp only at h
  obtain⟨⟨c2_0,c2_1⟩,hc2,h⟩:=oB h
  dsimp only at h
  have k0:=fun {A L l} (k:PL A L l)=>yy 4 (.call (qiv_ a0 (.inr ()) [] [(0,0,false)])) <|
   ww (qg9_ n a0 (.inr ()) hc1) <|
   k
  cases c2_0 with
  | nil=>
   dsimp only at h
   obtain⟨hc3,h⟩:=gdD h
   obtain rfl:=oI h
   exact runF2 hm ⟨[2],[],0,0,[(0,Nat.add (2*codL (rows rw_iiiiiiLu ([]:List R8))+1) 64)],true,[],[],[]⟩ (k0 <|
    ww (qc7_ n (rnd:=none) 0 (([]:List R8),0) (([]:List R8),c2_1) hc2) <|
    ll 10 ⟨(kW [3,4] [(0,0,false)] 1 0),(qn_ 0 (([]:List R8),c2_1)).1,(qn_ 0 (([]:List R8),c2_1)).2⟩ <|
    ww (qf5_ ql_ q2_ qc_ ([]:List R8)) <|
    ee) (by kernel_rfl)
  | cons c2_0a c2_0t=>
   dsimp only at h
   obtain⟨hc3,h⟩:=gd h
   obtain⟨hc4,h⟩:=gdD h
   obtain rfl:=oI h
   subst hc3
   exact runF2 hm ⟨[2],[],0,0,[(0,Nat.add (2*codL (rows rw_iiiiiiLu (c2_0a::c2_0t))+1) 64)],true,[],[],[]⟩ (k0 <|
    ww (qc7_ n (rnd:=none) 0 (([]:List R8),0) ((c2_0a::c2_0t),(((c2_0a::c2_0t)).length)) hc2) <|
    ll 10 ⟨(kW [3,4] [(0,0,false)] 1 0),(qn_ 0 ((c2_0a::c2_0t),(((c2_0a::c2_0t)).length))).1,(qn_ 0 ((c2_0a::c2_0t),(((c2_0a::c2_0t)).length))).2⟩ <|
    ww (qf5_ ql_ q2_ qc_ (c2_0a::c2_0t)) <|
    ee) (by kernel_rfl)

def qsv_ (a0:W8)(r:Bool):Value:=match r with
 | o0=>(bO o0)
def qsw_ (a0:W8)(r:Bool):AH:=match r with
 | o0=>⟨sB [],0,0⟩
abbrev qze_ (a0:W8)(r:Bool):Prop:=Gv P (.func 43) [(wlV a0)] ⟨sB [],0,0⟩ (qsv_ a0 r) (qsw_ a0 r)
abbrev qzf_ (a0:W8)(r:Bool)(ins outs:BL):CallA:=⟨0,ins,qsv_ a0 r,qsw_ a0 r,outs⟩
def qib_ (x0:W8)(x3:Int)(st:List (Int×Int×Int)×Nat×Int):XSt:=match st with
 | (x1,x2,x4)=>(sT 99 [(0,(wlV x0)),(3,(slQ x1 0 x2 3)),(8,(wlV x0)),(9,(i6 x3)),(10,(i6 x4))],[],⟨sB [(0,(nblkR qh2_ x1 74))],1,0⟩)
def qcw_ (x0:W8)(x3:Int)(r:(Unit) ⊕ (List (Int×Int×Int)×Nat)):Ex×XSt:=match r with
 | .inl _=>(.ret,(sT 99 [(2,(bO false))],[],⟨sB [],0,0⟩))
 | .inr (z0,z1)=>(.exit 0,(sT 99 [(3,(slQ z0 0 z1 3))],[],⟨sB [(0,(nblkR qh2_ z0 74))],1,0⟩))
abbrev qwn_ (rnd:Option Nat)(x0:W8)(x3:Int)(st:List (Int×Int×Int)×Nat×Int)(c:Ex×XSt):Prop:=CG P rnd (fnN P 43) 0 (qp_ P 43 [false,false,true,false,true,true]) (qib_ x0 x3 st) c
abbrev qwo_ (rd:Option Nat)(x0:W8)(x3:Int)(st:List (Int×Int×Int)×Nat×Int)(r:(Unit) ⊕ (List (Int×Int×Int)×Nat)):Prop:=CG P rd (fnN P 43) 0 (qp_ P 43 [false,true,false,true,true]) (qib_ x0 x3 st) (qcw_ x0 x3 r)
def qh_ (n:Nat)(x0:W8)(x3:Int)(st:List (Int×Int×Int)×Nat×Int):Option ((List (Int×Int×Int)×Nat×Int) ⊕ ((Unit) ⊕ (List (Int×Int×Int)×Nat))):=match st with
 | (x1,x2,x4)=>
  match x1 with
  | []=>
   if x4<x3 then
    if 0≤x4∧x4<(((x0).l.length:Nat):Int) then
     ((some (((x0).l).getD (x4).toNat (0,0,0,0,0,0,nl0,0)))).bind fun y3_=>
     if x4 > 0 then
      some (.inr (.inl ()))
     else
      if ((((y3_.2.2.2.2.2.2.1)).l.length:Nat):Int) > 0 then
       some (.inl ([(x4,(0:Int),(y3_.2.2.1))],1,(w64 (x4+1))))
      else
       some (.inl (([]:List (Int×Int×Int)),0,(w64 (x4+1))))
    else none
   else
    some (.inr (.inr (([]:List (Int×Int×Int)),0)))
  | x1a::x1t=>
   if x4<x3 then
    if 0≤x4∧x4<(((x0).l.length:Nat):Int) then
     ((some (((x0).l).getD (x4).toNat (0,0,0,0,0,0,nl0,0)))).bind fun y3_=>
     if x4 > 0 then
      if ((x2:Nat):Int)=0 then
       some (.inr (.inl ()))
      else
       ((some (w64 (((x2:Nat):Int)-1)))).bind fun y6_=>
       if 0≤y6_∧y6_<((x2:Nat):Int) then
        if (y6_).toNat<((x1a::x1t)).length then
         ((some (((x1a::x1t)).getD (y6_).toNat (0,0,0)))).bind fun y9_=>
         if 0≤(y9_.1)∧(y9_.1)<(((x0).l.length:Nat):Int) then
          ((some (((x0).l).getD ((y9_.1)).toNat (0,0,0,0,0,0,nl0,0)))).bind fun y11_=>
          if 0≤(y9_.2.1)∧(y9_.2.1)<((((y11_.2.2.2.2.2.2.1)).l.length:Nat):Int) then
           if ((y9_.2.1)).toNat<(((y11_.2.2.2.2.2.2.1)).l).length then
            ((some ((((y11_.2.2.2.2.2.2.1)).l).getD ((y9_.2.1)).toNat 0))).bind fun y14_=>
            if y14_=x4 then
             if (y3_.2.2.1)<(y9_.2.2) then
              some (.inr (.inl ()))
             else
              if (y3_.2.2.2.2.1) > (y11_.2.2.2.2.1) then
               some (.inr (.inl ()))
              else
               if (w64 ((y9_.2.1)+1))=((((y11_.2.2.2.2.2.2.1)).l.length:Nat):Int) then
                if 0≤y6_∧y6_≤((x2:Nat):Int) then
                 if ((((y3_.2.2.2.2.2.2.1)).l.length:Nat):Int) > 0 then
                  if (y6_).toNat≤((((x1a::x1t)).set (y6_).toNat ((y9_.1),(w64 ((y9_.2.1)+1)),(y3_.2.2.2.2.1)))).length then
                   if ((y6_).toNat+1)*24≤140737488355328 then
                    some (.inl (((List.take (y6_).toNat (((x1a::x1t)).set (y6_).toNat ((y9_.1),(w64 ((y9_.2.1)+1)),(y3_.2.2.2.2.1)))) ++ [(x4,(0:Int),(y3_.2.2.1))]),((((List.take (y6_).toNat (((x1a::x1t)).set (y6_).toNat ((y9_.1),(w64 ((y9_.2.1)+1)),(y3_.2.2.2.2.1)))) ++ [(x4,(0:Int),(y3_.2.2.1))])).length),(w64 (x4+1))))
                   else none
                  else none
                 else
                  some (.inl ((((x1a::x1t)).set (y6_).toNat ((y9_.1),(w64 ((y9_.2.1)+1)),(y3_.2.2.2.2.1))),((y6_).toNat),(w64 (x4+1))))
                else none
               else
                if ((((y3_.2.2.2.2.2.2.1)).l.length:Nat):Int) > 0 then
                 if x2≤((((x1a::x1t)).set (y6_).toNat ((y9_.1),(w64 ((y9_.2.1)+1)),(y3_.2.2.2.2.1)))).length then
                  if (x2+1)*24≤140737488355328 then
                   some (.inl (((List.take x2 (((x1a::x1t)).set (y6_).toNat ((y9_.1),(w64 ((y9_.2.1)+1)),(y3_.2.2.2.2.1)))) ++ [(x4,(0:Int),(y3_.2.2.1))]),((((List.take x2 (((x1a::x1t)).set (y6_).toNat ((y9_.1),(w64 ((y9_.2.1)+1)),(y3_.2.2.2.2.1)))) ++ [(x4,(0:Int),(y3_.2.2.1))])).length),(w64 (x4+1))))
                  else none
                 else none
                else
                 some (.inl ((((x1a::x1t)).set (y6_).toNat ((y9_.1),(w64 ((y9_.2.1)+1)),(y3_.2.2.2.2.1))),x2,(w64 (x4+1))))
            else
             some (.inr (.inl ()))
           else none
          else none
         else none
        else none
       else none
     else
      if ((((y3_.2.2.2.2.2.2.1)).l.length:Nat):Int) > 0 then
       if x2≤((x1a::x1t)).length then
        if (x2+1)*24≤140737488355328 then
         some (.inl (((List.take x2 (x1a::x1t)) ++ [(x4,(0:Int),(y3_.2.2.1))]),((((List.take x2 (x1a::x1t)) ++ [(x4,(0:Int),(y3_.2.2.1))])).length),(w64 (x4+1))))
        else none
       else none
      else
       some (.inl ((x1a::x1t),x2,(w64 (x4+1))))
    else none
   else
    some (.inr (.inr ((x1a::x1t),x2)))
def qgr_ (n:Nat)(x0:W8)(x3:Int)(st:List (Int×Int×Int)×Nat×Int):Option ((Unit) ⊕ (List (Int×Int×Int)×Nat)):=iterM (qh_ n x0 x3) n st
theorem qp1_ (n:Nat){rnd:Option Nat}(x0:W8)(x3:Int)(st:List (Int×Int×Int)×Nat×Int)(o:(List (Int×Int×Int)×Nat×Int) ⊕ ((Unit) ⊕ (List (Int×Int×Int)×Nat)))(h:qh_ n x0 x3 st=some o):qwn_ rnd x0 x3 st (Sum.elim (fun s=>(.normal,qib_ x0 x3 s)) (fun r=>qcw_ x0 x3 r) o):=by
 obtain⟨x1,x2,x4⟩:=st
 unfold qh_ at h
 dsimp only at h
 cases x1 with
 | nil=>
  dsimp only at h
  by_cases hy1:x4<x3
  ·rw[if_pos hy1] at h
   obtain⟨hy2,h⟩:=gd h
   obtain⟨y3_,hy3,h⟩:=oB h
   have k0:=fun {A L l} (k:PL A L l)=>zz 1 (xdT hy1) <|
    zz 8 (xk1 (x0).num (x0).off (x0).cap hy2) <|
    zz 9 (lk2 hy3 (qj_ hy2)) <|
    k
   by_cases hy4:x4 > 0
   ·rw[if_pos hy4] at h
    obtain rfl:=oI h
    exact runC2 hm (kW [2] [] 0 0) (k0 <|
     zz 16 (xdT hy4) <|
     ee) (by kernel_rfl)
   ·rw[if_neg hy4] at h
    have k3:=fun {A L l} (k:PL A L l)=>zz 16 (xdF hy4) <|
     k
    by_cases hy5:((((y3_.2.2.2.2.2.2.1)).l.length:Nat):Int) > 0
    ·rw[if_pos hy5] at h
     obtain rfl:=oI h
     exact runC2 hm (kW [0,3,8,9,10] [(0,3,false)] 1 0) (k0 <|
      k3 <|
      zz 22 (xdT hy5) <|
      ee) (by kernel_rfl)
    ·rw[if_neg hy5] at h
     obtain rfl:=oI h
     exact runC2 hm (kW [0,3,8,9,10] [] 1 0) (k0 <|
      k3 <|
      zz 22 (xdF hy5) <|
      ee) (by kernel_rfl)
  ·rw[if_neg hy1] at h
   obtain rfl:=oI h
   exact runC2 hm (kW [3] [] 1 0) (zz 1 (xdF hy1) <|
    ee) (by kernel_rfl)
 | cons x1a x1t=>
  dsimp only at h
  by_cases hy1:x4<x3
  ·rw[if_pos hy1] at h
   obtain⟨hy2,h⟩:=gd h
   obtain⟨y3_,hy3,h⟩:=oB h
   have k0:=fun {A L l} (k:PL A L l)=>zz 1 (xdT hy1) <|
    zz 8 (xk1 (x0).num (x0).off (x0).cap hy2) <|
    zz 9 (lk2 hy3 (qj_ hy2)) <|
    k
   by_cases hy4:x4 > 0
   ·rw[if_pos hy4] at h
    have k3:=fun {A L l} (k:PL A L l)=>zz 16 (xdT hy4) <|
     k
    by_cases hy5:((x2:Nat):Int)=0
    ·rw[if_pos hy5] at h
     obtain rfl:=oI h
     exact runC2 hm (kW [2] [] 0 0) (k0 <|
      k3 <|
      zz 22 (xeT hy5) <|
      ee) (by kernel_rfl)
    ·rw[if_neg hy5] at h
     obtain⟨y6_,hy6,h⟩:=oB h
     obtain⟨hy7,h⟩:=gd h
     obtain⟨hy8,h⟩:=gd h
     obtain⟨y9_,hy9,h⟩:=oB h
     obtain⟨hy10,h⟩:=gd h
     obtain⟨y11_,hy11,h⟩:=oB h
     obtain⟨hy12,h⟩:=gd h
     obtain⟨hy13,h⟩:=gd h
     obtain⟨y14_,hy14,h⟩:=oB h
     have k4:=fun {A L l} (k:PL A L l)=>zz 22 (xeF hy5) <|
      zz 28 (xnm hy6) <|
      zz 29 (xk5 0 U3 hy7) <|
      zz 36 (ok6 hy9 (hy8)) <|
      zz 37 (xk1 (x0).num (x0).off (x0).cap hy10) <|
      zz 38 (lk2 hy11 (qj_ hy10)) <|
      zz 48 (ok7 hy9 (hy8)) <|
      zz 49 (xk8 (Nat.add ((y11_.2.2.2.2.2.2.1)).num 64) ((y11_.2.2.2.2.2.2.1)).off ((y11_.2.2.2.2.2.2.1)).cap hy12) <|
      zz 50 (nk9 hy14 hy13) <|
      k
     by_cases hy15:y14_=x4
     ·rw[if_pos hy15] at h
      have k13:=fun {A L l} (k:PL A L l)=>zz 52 (xnF hy15) <|
       zz 59 (ok10 hy9 (hy8)) <|
       k
      by_cases hy16:(y3_.2.2.1)<(y9_.2.2)
      ·rw[if_pos hy16] at h
       obtain rfl:=oI h
       exact runC2 hm (kW [2] [] 0 0) (k0 <|
        k3 <|
        k4 <|
        k13 <|
        zz 60 (xdT hy16) <|
        ee) (by kernel_rfl)
      ·rw[if_neg hy16] at h
       have k15:=fun {A L l} (k:PL A L l)=>zz 60 (xdF hy16) <|
        k
       by_cases hy17:(y3_.2.2.2.2.1) > (y11_.2.2.2.2.1)
       ·rw[if_pos hy17] at h
        obtain rfl:=oI h
        exact runC2 hm (kW [2] [] 0 0) (k0 <|
         k3 <|
         k4 <|
         k13 <|
         k15 <|
         zz 67 (xdT hy17) <|
         ee) (by kernel_rfl)
       ·rw[if_neg hy17] at h
        have k16:=fun {A L l} (k:PL A L l)=>zz 67 (xdF hy17) <|
         zz 76 (ok7 hy9 (hy8)) <|
         z2 82 (ste (k:=1) (qf9_ qi6_ (0,0,0) (hr:=hy9) (i:=(y6_).toNat) (j:=1) (l:=[(i6 (w64 ((y9_.2.1)+1)))]) ((y9_.1),(w64 ((y9_.2.1)+1)),(y9_.2.2)) (Nat.add ((y6_).toNat*3) 1) rfl (hy8) (Nat.le_of_ble_eq_true rfl) rfl)) <|
         z2 85 (ste (k:=1) (rows_stS qi6_ (i:=(y6_).toNat) (j:=2) (l:=[(i6 (y3_.2.2.2.2.1))]) ((y9_.1),(w64 ((y9_.2.1)+1)),(y9_.2.2)) ((y9_.1),(w64 ((y9_.2.1)+1)),(y3_.2.2.2.2.1)) (Nat.add ((y6_).toNat*3) 2) rfl (hy8) (Nat.le_of_ble_eq_true rfl) rfl)) <|
         yy 90 (.ld (i6 (w64 ((y9_.2.1)+1)))) <|
         ww (p:=(layT (rows qh2_ (((x1a::x1t)).set (y6_).toNat ((y9_.1),(w64 ((y9_.2.1)+1)),(y3_.2.2.2.2.1))))).get (Nat.add ((y6_).toNat*3) 1)=some (i6 (w64 ((y9_.2.1)+1)))) (rows_ldS qi6_ (i:=(y6_).toNat) (j:=1) ((y9_.1),(w64 ((y9_.2.1)+1)),(y3_.2.2.2.2.1)) (Nat.add ((y6_).toNat*3) 1) rfl (hy8) (by decide) rfl) <|
         k
        by_cases hy18:(w64 ((y9_.2.1)+1))=((((y11_.2.2.2.2.2.2.1)).l.length:Nat):Int)
        ·rw[if_pos hy18] at h
         obtain⟨hy19,h⟩:=gd h
         have k22:=fun {A L l} (k:PL A L l)=>zz 94 (xeT hy18) <|
          zz 99 (xnm hy6) <|
          yy 100 (.pur (sN 0 0 (y6_).toNat (Nat.add big 3))) <|
          ww (p:=qjt_ P 71 (sN 0 0 x2 (Nat.add big 3)) none (some (i6 y6_)) none Ax.h0=some ((sN 0 0 (y6_).toNat (Nat.add big 3)),Ax.h0)) (slRowHi (e:=74) (es:=3) (by kernel_rfl) (by kernel_rfl) rfl rfl hy19) <|
          k
         by_cases hy20:((((y3_.2.2.2.2.2.2.1)).l.length:Nat):Int) > 0
         ·rw[if_pos hy20] at h
          obtain⟨hy21,h⟩:=gd h
          obtain⟨hy22,h⟩:=gd h
          obtain rfl:=oI h
          obtain⟨za,zt,hz⟩:∃ a t,((List.take (y6_).toNat (((x1a::x1t)).set (y6_).toNat ((y9_.1),(w64 ((y9_.2.1)+1)),(y3_.2.2.2.2.1)))) ++ [(x4,(0:Int),(y3_.2.2.1))])=a::t:=q1f_ (List.take (y6_).toNat (((x1a::x1t)).set (y6_).toNat ((y9_.1),(w64 ((y9_.2.1)+1)),(y3_.2.2.2.2.1)))) (x4,(0:Int),(y3_.2.2.1))
          rw[hz]
          try rw[hz] at k0
          try rw[hz] at k3
          try rw[hz] at k4
          try rw[hz] at k13
          try rw[hz] at k15
          try rw[hz] at k16
          try rw[hz] at k22
          exact runC2 hm (kW [0,3,8,9,10] [(0,4,true)] 1 0) (k0 <|
           k3 <|
           k4 <|
           k13 <|
           k15 <|
           k16 <|
           k22 <|
           zz 106 (xdT hy20) <|
           yy 114 (.app ⟨none,rows qh2_ (List.take (y6_).toNat (((x1a::x1t)).set (y6_).toNat ((y9_.1),(w64 ((y9_.2.1)+1)),(y3_.2.2.2.2.1)))),(rows qh2_ (za::zt)),((za::zt)).length,false⟩) <|
           ww (p:=0<1) ((by decide)) <|
           ww (p:=rdT (layT (rows qh2_ (((x1a::x1t)).set (y6_).toNat ((y9_.1),(w64 ((y9_.2.1)+1)),(y3_.2.2.2.2.1))))) (Nat.mul (y6_).toNat 3) 0=some (rows qh2_ (List.take (y6_).toNat (((x1a::x1t)).set (y6_).toNat ((y9_.1),(w64 ((y9_.2.1)+1)),(y3_.2.2.2.2.1)))))) (qvd_ qi6_ _ _ hy21) <|
           ww (p:=fits (Nat.add (y6_).toNat 1) 24=true) (fits_ok hy22 (by have:=hy22; show (_:Nat)+_≤_; omega)) <|
           ww (p:=qm_ [(i6 x4),(i6 (0:Int)),(i6 (y3_.2.2.1))]=true) (rfl) <|
           ww (p:=qm_ (rows qh2_ (List.take (y6_).toNat (((x1a::x1t)).set (y6_).toNat ((y9_.1),(w64 ((y9_.2.1)+1)),(y3_.2.2.2.2.1)))))=true) (qc6_ qi6_ _) <|
           ww (p:=rows qh2_ (List.take (y6_).toNat (((x1a::x1t)).set (y6_).toNat ((y9_.1),(w64 ((y9_.2.1)+1)),(y3_.2.2.2.2.1)))) ++ [(i6 x4),(i6 (0:Int)),(i6 (y3_.2.2.1))]=(rows qh2_ (za::zt))) (by rw[←hz]; exact (qij_ qh2_ (List.take (y6_).toNat (((x1a::x1t)).set (y6_).toNat ((y9_.1),(w64 ((y9_.2.1)+1)),(y3_.2.2.2.2.1)))) [(x4,(0:Int),(y3_.2.2.1))])) <|
           ww (p:=Nat.add (y6_).toNat 1=((za::zt)).length) (by rw[←hz]; exact (take_len hy21 rfl)) <|
           ww (qb_ qi6_ (za::zt) 74) <|
           ee) (by kernel_rfl)
         ·rw[if_neg hy20] at h
          obtain rfl:=oI h
          obtain⟨za,zt,hz⟩:∃ a t,(((x1a::x1t)).set (y6_).toNat ((y9_.1),(w64 ((y9_.2.1)+1)),(y3_.2.2.2.2.1)))=a::t:=qmn_
          rw[hz]
          try rw[hz] at k0
          try rw[hz] at k3
          try rw[hz] at k4
          try rw[hz] at k13
          try rw[hz] at k15
          try rw[hz] at k16
          try rw[hz] at k22
          exact runC2 hm (kW [0,3,8,9,10] [(0,0,true)] 1 0) (k0 <|
           k3 <|
           k4 <|
           k13 <|
           k15 <|
           k16 <|
           k22 <|
           zz 106 (xdF hy20) <|
           ww (qb_ qi6_ (za::zt) 74) <|
           ee) (by kernel_rfl)
        ·rw[if_neg hy18] at h
         have k22:=fun {A L l} (k:PL A L l)=>zz 94 (xeF hy18) <|
          k
         by_cases hy19:((((y3_.2.2.2.2.2.2.1)).l.length:Nat):Int) > 0
         ·rw[if_pos hy19] at h
          obtain⟨hy20,h⟩:=gd h
          obtain⟨hy21,h⟩:=gd h
          obtain rfl:=oI h
          obtain⟨za,zt,hz⟩:∃ a t,((List.take x2 (((x1a::x1t)).set (y6_).toNat ((y9_.1),(w64 ((y9_.2.1)+1)),(y3_.2.2.2.2.1)))) ++ [(x4,(0:Int),(y3_.2.2.1))])=a::t:=q1f_ (List.take x2 (((x1a::x1t)).set (y6_).toNat ((y9_.1),(w64 ((y9_.2.1)+1)),(y3_.2.2.2.2.1)))) (x4,(0:Int),(y3_.2.2.1))
          rw[hz]
          try rw[hz] at k0
          try rw[hz] at k3
          try rw[hz] at k4
          try rw[hz] at k13
          try rw[hz] at k15
          try rw[hz] at k16
          try rw[hz] at k22
          exact runC2 hm (kW [0,3,8,9,10] [(0,4,true)] 1 0) (k0 <|
           k3 <|
           k4 <|
           k13 <|
           k15 <|
           k16 <|
           k22 <|
           zz 100 (xdT hy19) <|
           yy 108 (.app ⟨none,rows qh2_ (List.take x2 (((x1a::x1t)).set (y6_).toNat ((y9_.1),(w64 ((y9_.2.1)+1)),(y3_.2.2.2.2.1)))),(rows qh2_ (za::zt)),((za::zt)).length,false⟩) <|
           ww (p:=0<1) ((by decide)) <|
           ww (p:=rdT (layT (rows qh2_ (((x1a::x1t)).set (y6_).toNat ((y9_.1),(w64 ((y9_.2.1)+1)),(y3_.2.2.2.2.1))))) (Nat.mul x2 3) 0=some (rows qh2_ (List.take x2 (((x1a::x1t)).set (y6_).toNat ((y9_.1),(w64 ((y9_.2.1)+1)),(y3_.2.2.2.2.1)))))) (qvd_ qi6_ _ _ hy20) <|
           ww (p:=fits (Nat.add x2 1) 24=true) (fits_ok hy21 (by have:=hy21; show (_:Nat)+_≤_; omega)) <|
           ww (p:=qm_ [(i6 x4),(i6 (0:Int)),(i6 (y3_.2.2.1))]=true) (rfl) <|
           ww (p:=qm_ (rows qh2_ (List.take x2 (((x1a::x1t)).set (y6_).toNat ((y9_.1),(w64 ((y9_.2.1)+1)),(y3_.2.2.2.2.1)))))=true) (qc6_ qi6_ _) <|
           ww (p:=rows qh2_ (List.take x2 (((x1a::x1t)).set (y6_).toNat ((y9_.1),(w64 ((y9_.2.1)+1)),(y3_.2.2.2.2.1)))) ++ [(i6 x4),(i6 (0:Int)),(i6 (y3_.2.2.1))]=(rows qh2_ (za::zt))) (by rw[←hz]; exact (qij_ qh2_ (List.take x2 (((x1a::x1t)).set (y6_).toNat ((y9_.1),(w64 ((y9_.2.1)+1)),(y3_.2.2.2.2.1)))) [(x4,(0:Int),(y3_.2.2.1))])) <|
           ww (p:=Nat.add x2 1=((za::zt)).length) (by rw[←hz]; exact (take_len hy20 rfl)) <|
           ww (qb_ qi6_ (za::zt) 74) <|
           ee) (by kernel_rfl)
         ·rw[if_neg hy19] at h
          obtain rfl:=oI h
          obtain⟨za,zt,hz⟩:∃ a t,(((x1a::x1t)).set (y6_).toNat ((y9_.1),(w64 ((y9_.2.1)+1)),(y3_.2.2.2.2.1)))=a::t:=qmn_
          rw[hz]
          try rw[hz] at k0
          try rw[hz] at k3
          try rw[hz] at k4
          try rw[hz] at k13
          try rw[hz] at k15
          try rw[hz] at k16
          try rw[hz] at k22
          exact runC2 hm (kW [0,3,8,9,10] [(0,0,true)] 1 0) (k0 <|
           k3 <|
           k4 <|
           k13 <|
           k15 <|
           k16 <|
           k22 <|
           zz 100 (xdF hy19) <|
           ww (qb_ qi6_ (za::zt) 74) <|
           ee) (by kernel_rfl)
     ·rw[if_neg hy15] at h
      obtain rfl:=oI h
      exact runC2 hm (kW [2] [] 0 0) (k0 <|
       k3 <|
       k4 <|
       zz 52 (xnT hy15) <|
       ee) (by kernel_rfl)
   ·rw[if_neg hy4] at h
    have k3:=fun {A L l} (k:PL A L l)=>zz 16 (xdF hy4) <|
     k
    by_cases hy5:((((y3_.2.2.2.2.2.2.1)).l.length:Nat):Int) > 0
    ·rw[if_pos hy5] at h
     obtain⟨hy6,h⟩:=gd h
     obtain⟨hy7,h⟩:=gd h
     obtain rfl:=oI h
     obtain⟨za,zt,hz⟩:∃ a t,((List.take x2 (x1a::x1t)) ++ [(x4,(0:Int),(y3_.2.2.1))])=a::t:=q1f_ (List.take x2 (x1a::x1t)) (x4,(0:Int),(y3_.2.2.1))
     rw[hz]
     try rw[hz] at k0
     try rw[hz] at k3
     exact runC2 hm (kW [0,3,8,9,10] [(0,3,true)] 1 0) (k0 <|
      k3 <|
      zz 22 (xdT hy5) <|
      yy 30 (.app ⟨none,rows qh2_ (List.take x2 (x1a::x1t)),(rows qh2_ (za::zt)),((za::zt)).length,false⟩) <|
      ww (p:=0<1) ((by decide)) <|
      ww (p:=rdT (layT (rows qh2_ (x1a::x1t))) (Nat.mul x2 3) 0=some (rows qh2_ (List.take x2 (x1a::x1t)))) (qvd_ qi6_ _ _ hy6) <|
      ww (p:=fits (Nat.add x2 1) 24=true) (fits_ok hy7 (by have:=hy7; show (_:Nat)+_≤_; omega)) <|
      ww (p:=qm_ [(i6 x4),(i6 (0:Int)),(i6 (y3_.2.2.1))]=true) (rfl) <|
      ww (p:=qm_ (rows qh2_ (List.take x2 (x1a::x1t)))=true) (qc6_ qi6_ _) <|
      ww (p:=rows qh2_ (List.take x2 (x1a::x1t)) ++ [(i6 x4),(i6 (0:Int)),(i6 (y3_.2.2.1))]=(rows qh2_ (za::zt))) (by rw[←hz]; exact (qij_ qh2_ (List.take x2 (x1a::x1t)) [(x4,(0:Int),(y3_.2.2.1))])) <|
      ww (p:=Nat.add x2 1=((za::zt)).length) (by rw[←hz]; exact (take_len hy6 rfl)) <|
      ww (qb_ qi6_ (za::zt) 74) <|
      ee) (by kernel_rfl)
    ·rw[if_neg hy5] at h
     obtain rfl:=oI h
     exact runC2 hm (kW [0,3,8,9,10] [(0,0,true)] 1 0) (k0 <|
      k3 <|
      zz 22 (xdF hy5) <|
      ww (qb_ qi6_ (x1a::x1t) 74) <|
      ee) (by kernel_rfl)
  ·rw[if_neg hy1] at h
   obtain rfl:=oI h
   exact runC2 hm (kW [3] [(0,0,true)] 1 0) (zz 1 (xdF hy1) <|
    ww (qb_ qi6_ (x1a::x1t) 74) <|
    ee) (by kernel_rfl)
theorem qik_ (n:Nat){rnd:Option Nat}(x0:W8)(x3:Int)(st:List (Int×Int×Int)×Nat×Int)(r:(Unit) ⊕ (List (Int×Int×Int)×Nat))(h:qgr_ n x0 x3 st=some r):qwo_ rnd x0 x3 st r:=
 CG.iter (b:=qp_ P 43 [false,false,true,false,true,true]) (by kernel_rfl) (body:=qh_ n x0 x3) (S:=qib_ x0 x3) (X:=qcw_ x0 x3)
  (fun s s' h=>qp1_ n x0 x3 s (.inl s') h)
  (fun s r h=>qp1_ n x0 x3 s (.inr r) h)
  (fun r=>by intro hx; rcases r with _ | _<;>cases hx) h
def qes_ (n:Nat)(a0:W8):Option (Bool):=
 match qgr_ n a0 (((a0).l.length:Nat):Int) (([]:List (Int×Int×Int)),0,0) with
 | none=>none
 | some (.inl _)=>
  some false
 | some (.inr (c1_0,c1_1))=>
  match c1_0 with
  | []=>
   some true
  | c1_0a::c1_0t=>
   if ((c1_1:Nat):Int)=0 then
    some true
   else
    some false
theorem qve_ (n:Nat)(a0:W8)(r:Bool)(h:qes_ n a0=some r):qze_ a0 r:=by
 unfold qes_ at h
 rcases hc1:qgr_ n a0 (((a0).l.length:Nat):Int) (([]:List (Int×Int×Int)),0,0) with _ | (⟨⟩ | ⟨c1_0,c1_1⟩)
 ·rw[hc1] at h; cases h
 ·rw[hc1] at h
  dsimp only at h
  obtain rfl:=oI h
  exact runF2 hm (kW [2] [] 0 0) (ww (qik_ n (rnd:=none) a0 (((a0).l.length:Nat):Int) (([]:List (Int×Int×Int)),0,0) (.inl ()) hc1) <|
   ll 10 ⟨(kW [0,3,8,9,10] [] 1 0),(qcw_ a0 (((a0).l.length:Nat):Int) (.inl ())).1,(qcw_ a0 (((a0).l.length:Nat):Int) (.inl ())).2⟩ <|
   ee) (by kernel_rfl)
 ·rw[hc1] at h
  dsimp only at h
  cases c1_0 with
  | nil=>
   dsimp only at h
   obtain rfl:=oI h
   exact runF2 hm (kW [2] [] 0 0) (ww (qik_ n (rnd:=none) a0 (((a0).l.length:Nat):Int) (([]:List (Int×Int×Int)),0,0) (.inr (([]:List (Int×Int×Int)),c1_1)) hc1) <|
    ll 10 ⟨(kW [0,3,8,9,10] [] 1 0),(qcw_ a0 (((a0).l.length:Nat):Int) (.inr (([]:List (Int×Int×Int)),c1_1))).1,(qcw_ a0 (((a0).l.length:Nat):Int) (.inr (([]:List (Int×Int×Int)),c1_1))).2⟩ <|
    ee) (by kernel_rfl)
  | cons c1_0a c1_0t=>
   dsimp only at h
   have k0:=fun {A L l} (k:PL A L l)=>ww (qik_ n (rnd:=none) a0 (((a0).l.length:Nat):Int) (([]:List (Int×Int×Int)),0,0) (.inr ((c1_0a::c1_0t),c1_1)) hc1) <|
    ll 10 ⟨(kW [0,3,8,9,10] [] 1 0),(qcw_ a0 (((a0).l.length:Nat):Int) (.inr ((c1_0a::c1_0t),c1_1))).1,(qcw_ a0 (((a0).l.length:Nat):Int) (.inr ((c1_0a::c1_0t),c1_1))).2⟩ <|
    k
   by_cases hc2:((c1_1:Nat):Int)=0
   ·rw[if_pos hc2] at h
    obtain rfl:=oI h
    exact runF2 hm (kW [2] [] 0 0) (k0 <|
     zz 14 (xeT hc2) <|
     ee) (by kernel_rfl)
   ·rw[if_neg hc2] at h
    obtain rfl:=oI h
    exact runF2 hm (kW [2] [] 0 0) (k0 <|
     zz 14 (xeF hc2) <|
     ee) (by kernel_rfl)

def qv0_ (a0 a1 a2 a3 a4 a5:Int)(a6:NL)(a7:Int)(r:Bool):Value:=match r with
 | o0=>(bO o0)
def qv1_ (a0 a1 a2 a3 a4 a5:Int)(a6:NL)(a7:Int)(r:Bool):AH:=match r with
 | o0=>⟨sB [],0,0⟩
abbrev G_treesoundq1 (a0 a1 a2 a3 a4 a5:Int)(a6:NL)(a7:Int)(r:Bool):Prop:=Gv P (.func 44) [(Value.agg #[(i6 a0),(i6 a1),(i6 a2),(i6 a3),(i6 a4),(i6 a5),(nlV a6),(Value.int .u64 a7)])] ⟨sB [],0,0⟩ (qv0_ a0 a1 a2 a3 a4 a5 a6 a7 r) (qv1_ a0 a1 a2 a3 a4 a5 a6 a7 r)
abbrev C_treesoundq1 (a0 a1 a2 a3 a4 a5:Int)(a6:NL)(a7:Int)(r:Bool)(ins outs:BL):CallA:=⟨0,ins,qv0_ a0 a1 a2 a3 a4 a5 a6 a7 r,qv1_ a0 a1 a2 a3 a4 a5 a6 a7 r,outs⟩
def qet_ (n:Nat)(a0 a1 a2 a3 a4 a5:Int)(a6:NL)(a7:Int):Option (Bool):=
 if a2<0 then
  some false
 else
  if a2 > a4 then
   some false
  else
   if a5≤a2 then
    some false
   else
    if a1=1 then
     if a3=a2 then
      some true
     else
      some false
    else
     if a1=2 then
      if a3=a2 then
       some true
      else
       some false
     else
      if a1=4 then
       if a3=a2 then
        if a4=a2 then
         if (((a6).l.length:Nat):Int)=0 then
          some true
         else
          some false
        else
         some false
       else
        some false
      else
       if a1=3 then
        if a3 ≥ a2 then
         if a3≤a4 then
          if (((a6).l.length:Nat):Int)=0 then
           some true
          else
           some false
         else
          some false
        else
         some false
       else
        if a1=5 then
         if a3 ≥ a2 then
          if a3≤a4 then
           if (((a6).l.length:Nat):Int)=0 then
            some true
           else
            some false
          else
           some false
         else
          some false
        else
         if a1=6 then
          if a3 ≥ a2 then
           if a3≤a4 then
            if (((a6).l.length:Nat):Int)=0 then
             some true
            else
             some false
           else
            some false
          else
           some false
         else
          some false
theorem qyi_ (n:Nat)(a0 a1 a2 a3 a4 a5:Int)(a6:NL)(a7:Int)(r:Bool)(h:qet_ n a0 a1 a2 a3 a4 a5 a6 a7=some r):G_treesoundq1 a0 a1 a2 a3 a4 a5 a6 a7 r:=by
 unfold qet_ at h
 by_cases hc1:a2<0
 ·rw[if_pos hc1] at h
  obtain rfl:=oI h
  exact runF2 hm (kW [2] [] 0 0) (zz 7 (xdT hc1) <|
   ee) (by kernel_rfl)
 ·rw[if_neg hc1] at h
  have k0:=fun {A L l} (k:PL A L l)=>zz 7 (xdF hc1) <|
   k
  by_cases hc2:a2 > a4
  ·rw[if_pos hc2] at h
   obtain rfl:=oI h
   exact runF2 hm (kW [2] [] 0 0) (k0 <|
    zz 13 (xdT hc2) <|
    ee) (by kernel_rfl)
  ·rw[if_neg hc2] at h
   have k1:=fun {A L l} (k:PL A L l)=>zz 13 (xdF hc2) <|
    k
   by_cases hc3:a5≤a2
   ·rw[if_pos hc3] at h
    obtain rfl:=oI h
    exact runF2 hm (kW [2] [] 0 0) (k0 <|
     k1 <|
     zz 20 (xdT hc3) <|
     ee) (by kernel_rfl)
   ·rw[if_neg hc3] at h
    have k2:=fun {A L l} (k:PL A L l)=>zz 20 (xdF hc3) <|
     k
    by_cases hc4:a1=1
    ·rw[if_pos hc4] at h
     have k3:=fun {A L l} (k:PL A L l)=>zz 30 (xeT hc4) <|
      k
     by_cases hc5:a3=a2
     ·rw[if_pos hc5] at h
      obtain rfl:=oI h
      exact runF2 hm (kW [2] [] 0 0) (k0 <|
       k1 <|
       k2 <|
       k3 <|
       zz 39 (xeT hc5) <|
       ee) (by kernel_rfl)
     ·rw[if_neg hc5] at h
      obtain rfl:=oI h
      exact runF2 hm (kW [2] [] 0 0) (k0 <|
       k1 <|
       k2 <|
       k3 <|
       zz 39 (xeF hc5) <|
       ee) (by kernel_rfl)
    ·rw[if_neg hc4] at h
     have k3:=fun {A L l} (k:PL A L l)=>zz 30 (xeF hc4) <|
      k
     by_cases hc5:a1=2
     ·rw[if_pos hc5] at h
      have k4:=fun {A L l} (k:PL A L l)=>zz 33 (xeT hc5) <|
       k
      by_cases hc6:a3=a2
      ·rw[if_pos hc6] at h
       obtain rfl:=oI h
       exact runF2 hm (kW [2] [] 0 0) (k0 <|
        k1 <|
        k2 <|
        k3 <|
        k4 <|
        zz 41 (xeT hc6) <|
        ee) (by kernel_rfl)
      ·rw[if_neg hc6] at h
       obtain rfl:=oI h
       exact runF2 hm (kW [2] [] 0 0) (k0 <|
        k1 <|
        k2 <|
        k3 <|
        k4 <|
        zz 41 (xeF hc6) <|
        ee) (by kernel_rfl)
     ·rw[if_neg hc5] at h
      have k4:=fun {A L l} (k:PL A L l)=>zz 33 (xeF hc5) <|
       k
      by_cases hc6:a1=4
      ·rw[if_pos hc6] at h
       have k5:=fun {A L l} (k:PL A L l)=>zz 37 (xeT hc6) <|
        k
       by_cases hc7:a3=a2
       ·rw[if_pos hc7] at h
        have k6:=fun {A L l} (k:PL A L l)=>zz 45 (xeT hc7) <|
         k
        by_cases hc8:a4=a2
        ·rw[if_pos hc8] at h
         have k7:=fun {A L l} (k:PL A L l)=>zz 51 (xeT hc8) <|
          k
         by_cases hc9:(((a6).l.length:Nat):Int)=0
         ·rw[if_pos hc9] at h
          obtain rfl:=oI h
          exact runF2 hm (kW [2] [] 0 0) (k0 <|
           k1 <|
           k2 <|
           k3 <|
           k4 <|
           k5 <|
           k6 <|
           k7 <|
           zz 57 (xeT hc9) <|
           ee) (by kernel_rfl)
         ·rw[if_neg hc9] at h
          obtain rfl:=oI h
          exact runF2 hm (kW [2] [] 0 0) (k0 <|
           k1 <|
           k2 <|
           k3 <|
           k4 <|
           k5 <|
           k6 <|
           k7 <|
           zz 57 (xeF hc9) <|
           ee) (by kernel_rfl)
        ·rw[if_neg hc8] at h
         obtain rfl:=oI h
         exact runF2 hm (kW [2] [] 0 0) (k0 <|
          k1 <|
          k2 <|
          k3 <|
          k4 <|
          k5 <|
          k6 <|
          zz 51 (xeF hc8) <|
          ee) (by kernel_rfl)
       ·rw[if_neg hc7] at h
        obtain rfl:=oI h
        exact runF2 hm (kW [2] [] 0 0) (k0 <|
         k1 <|
         k2 <|
         k3 <|
         k4 <|
         k5 <|
         zz 45 (xeF hc7) <|
         ee) (by kernel_rfl)
      ·rw[if_neg hc6] at h
       have k5:=fun {A L l} (k:PL A L l)=>zz 37 (xeF hc6) <|
        k
       by_cases hc7:a1=3
       ·rw[if_pos hc7] at h
        have k6:=fun {A L l} (k:PL A L l)=>zz 42 (xeT hc7) <|
         k
        by_cases hc8:a3 ≥ a2
        ·rw[if_pos hc8] at h
         have k7:=fun {A L l} (k:PL A L l)=>zz 51 (xdT hc8) <|
          k
         by_cases hc9:a3≤a4
         ·rw[if_pos hc9] at h
          have k8:=fun {A L l} (k:PL A L l)=>zz 57 (xdT hc9) <|
           k
          by_cases hc10:(((a6).l.length:Nat):Int)=0
          ·rw[if_pos hc10] at h
           obtain rfl:=oI h
           exact runF2 hm (kW [2] [] 0 0) (k0 <|
            k1 <|
            k2 <|
            k3 <|
            k4 <|
            k5 <|
            k6 <|
            k7 <|
            k8 <|
            zz 63 (xeT hc10) <|
            ee) (by kernel_rfl)
          ·rw[if_neg hc10] at h
           obtain rfl:=oI h
           exact runF2 hm (kW [2] [] 0 0) (k0 <|
            k1 <|
            k2 <|
            k3 <|
            k4 <|
            k5 <|
            k6 <|
            k7 <|
            k8 <|
            zz 63 (xeF hc10) <|
            ee) (by kernel_rfl)
         ·rw[if_neg hc9] at h
          obtain rfl:=oI h
          exact runF2 hm (kW [2] [] 0 0) (k0 <|
           k1 <|
           k2 <|
           k3 <|
           k4 <|
           k5 <|
           k6 <|
           k7 <|
           zz 57 (xdF hc9) <|
           ee) (by kernel_rfl)
        ·rw[if_neg hc8] at h
         obtain rfl:=oI h
         exact runF2 hm (kW [2] [] 0 0) (k0 <|
          k1 <|
          k2 <|
          k3 <|
          k4 <|
          k5 <|
          k6 <|
          zz 51 (xdF hc8) <|
          ee) (by kernel_rfl)
       ·rw[if_neg hc7] at h
        have k6:=fun {A L l} (k:PL A L l)=>zz 42 (xeF hc7) <|
         k
        by_cases hc8:a1=5
        ·rw[if_pos hc8] at h
         have k7:=fun {A L l} (k:PL A L l)=>zz 46 (xeT hc8) <|
          k
         by_cases hc9:a3 ≥ a2
         ·rw[if_pos hc9] at h
          have k8:=fun {A L l} (k:PL A L l)=>zz 55 (xdT hc9) <|
           k
          by_cases hc10:a3≤a4
          ·rw[if_pos hc10] at h
           have k9:=fun {A L l} (k:PL A L l)=>zz 61 (xdT hc10) <|
            k
           by_cases hc11:(((a6).l.length:Nat):Int)=0
           ·rw[if_pos hc11] at h
            obtain rfl:=oI h
            exact runF2 hm (kW [2] [] 0 0) (k0 <|
             k1 <|
             k2 <|
             k3 <|
             k4 <|
             k5 <|
             k6 <|
             k7 <|
             k8 <|
             k9 <|
             zz 67 (xeT hc11) <|
             ee) (by kernel_rfl)
           ·rw[if_neg hc11] at h
            obtain rfl:=oI h
            exact runF2 hm (kW [2] [] 0 0) (k0 <|
             k1 <|
             k2 <|
             k3 <|
             k4 <|
             k5 <|
             k6 <|
             k7 <|
             k8 <|
             k9 <|
             zz 67 (xeF hc11) <|
             ee) (by kernel_rfl)
          ·rw[if_neg hc10] at h
           obtain rfl:=oI h
           exact runF2 hm (kW [2] [] 0 0) (k0 <|
            k1 <|
            k2 <|
            k3 <|
            k4 <|
            k5 <|
            k6 <|
            k7 <|
            k8 <|
            zz 61 (xdF hc10) <|
            ee) (by kernel_rfl)
         ·rw[if_neg hc9] at h
          obtain rfl:=oI h
          exact runF2 hm (kW [2] [] 0 0) (k0 <|
           k1 <|
           k2 <|
           k3 <|
           k4 <|
           k5 <|
           k6 <|
           k7 <|
           zz 55 (xdF hc9) <|
           ee) (by kernel_rfl)
        ·rw[if_neg hc8] at h
         have k7:=fun {A L l} (k:PL A L l)=>zz 46 (xeF hc8) <|
          k
         by_cases hc9:a1=6
         ·rw[if_pos hc9] at h
          have k8:=fun {A L l} (k:PL A L l)=>zz 49 (xeT hc9) <|
           k
          by_cases hc10:a3 ≥ a2
          ·rw[if_pos hc10] at h
           have k9:=fun {A L l} (k:PL A L l)=>zz 57 (xdT hc10) <|
            k
           by_cases hc11:a3≤a4
           ·rw[if_pos hc11] at h
            have k10:=fun {A L l} (k:PL A L l)=>zz 63 (xdT hc11) <|
             k
            by_cases hc12:(((a6).l.length:Nat):Int)=0
            ·rw[if_pos hc12] at h
             obtain rfl:=oI h
             exact runF2 hm (kW [2] [] 0 0) (k0 <|
              k1 <|
              k2 <|
              k3 <|
              k4 <|
              k5 <|
              k6 <|
              k7 <|
              k8 <|
              k9 <|
              k10 <|
              zz 69 (xeT hc12) <|
              ee) (by kernel_rfl)
            ·rw[if_neg hc12] at h
             obtain rfl:=oI h
             exact runF2 hm (kW [2] [] 0 0) (k0 <|
              k1 <|
              k2 <|
              k3 <|
              k4 <|
              k5 <|
              k6 <|
              k7 <|
              k8 <|
              k9 <|
              k10 <|
              zz 69 (xeF hc12) <|
              ee) (by kernel_rfl)
           ·rw[if_neg hc11] at h
            obtain rfl:=oI h
            exact runF2 hm (kW [2] [] 0 0) (k0 <|
             k1 <|
             k2 <|
             k3 <|
             k4 <|
             k5 <|
             k6 <|
             k7 <|
             k8 <|
             k9 <|
             zz 63 (xdF hc11) <|
             ee) (by kernel_rfl)
          ·rw[if_neg hc10] at h
           obtain rfl:=oI h
           exact runF2 hm (kW [2] [] 0 0) (k0 <|
            k1 <|
            k2 <|
            k3 <|
            k4 <|
            k5 <|
            k6 <|
            k7 <|
            k8 <|
            zz 57 (xdF hc10) <|
            ee) (by kernel_rfl)
         ·rw[if_neg hc9] at h
          obtain rfl:=oI h
          exact runF2 hm (kW [2] [] 0 0) (k0 <|
           k1 <|
           k2 <|
           k3 <|
           k4 <|
           k5 <|
           k6 <|
           k7 <|
           zz 49 (xeF hc9) <|
           ee) (by kernel_rfl)

def qv2_ (a0:W8)(r:Int):Value:=match r with
 | o0=>(i6 o0)
def qv3_ (a0:W8)(r:Int):AH:=match r with
 | o0=>⟨sB [],0,0⟩
abbrev G_treeCheckq1 (a0:W8)(r:Int):Prop:=Gv P (.func 24) [(wlV a0)] ⟨sB [],0,0⟩ (qv2_ a0 r) (qv3_ a0 r)
abbrev qft_ (a0:W8)(r:Int)(ins outs:BL):CallA:=⟨0,ins,qv2_ a0 r,qv3_ a0 r,outs⟩
def qkc_ (x0:W8)(x1 st:Int):XSt:=match st with
 | x2=>(sT 36 [(16,(wlV x0)),(17,(i6 x1)),(18,(i6 x2))],[],⟨sB [],0,0⟩)
def qf1_ (x0:W8)(x1:Int)(r:(Unit) ⊕ (Unit)):Ex×XSt:=match r with
 | .inl _=>(.ret,(sT 36 [(2,(i6 (2:Int)))],[],⟨sB [],0,0⟩))
 | .inr _=>(.exit 0,(sT 36 [],[],⟨sB [],0,0⟩))
abbrev qzg_ (rd:Option Nat)(x0:W8)(x1 st:Int)(r:(Unit) ⊕ (Unit)):Prop:=CG P rd (fnN P 24) 0 (qp_ P 24 [false,true,false,true,true,true]) (qkc_ x0 x1 st) (qf1_ x0 x1 r)
def qcn_ (n:Nat)(x0:W8)(x1 st:Int):Option ((Int) ⊕ ((Unit) ⊕ (Unit))):=match st with
 | x2=>
  if x2<x1 then
   if 0≤x2∧x2<(((x0).l.length:Nat):Int) then
    ((some (((x0).l).getD (x2).toNat (0,0,0,0,0,0,nl0,0)))).bind fun y3_=>
    (qet_ n (y3_.1) (y3_.2.1) (y3_.2.2.1) (y3_.2.2.2.1) (y3_.2.2.2.2.1) (y3_.2.2.2.2.2.1) (y3_.2.2.2.2.2.2.1) (y3_.2.2.2.2.2.2.2)).bind fun y4_=>
    if y4_=true then
     if (y3_.2.1)=1 then
      if x2 > 0 then
       some (.inr (.inl ()))
      else
       some (.inl (w64 (x2+1)))
     else
      some (.inl (w64 (x2+1)))
    else
     some (.inr (.inl ()))
   else none
  else
   some (.inr (.inr ()))
def qh3_ (n:Nat)(x0:W8)(x1 st:Int):Option ((Unit) ⊕ (Unit)):=iterM (qcn_ n x0 x1) n st
theorem qsx_ (n:Nat){rnd:Option Nat}(x0:W8)(x1 x2:Int)(o:(Int) ⊕ ((Unit) ⊕ (Unit)))(h:qcn_ n x0 x1 x2=some o):CG P rnd (fnN P 24) 0 (qp_ P 24 [false,false,true,false,true,true,true]) (qkc_ x0 x1 x2) (Sum.elim (fun s=>(.normal,qkc_ x0 x1 s)) (fun r=>qf1_ x0 x1 r) o):=by
 unfold qcn_ at h
 dsimp only at h
 by_cases hy1:x2<x1
 ·rw[if_pos hy1] at h
  obtain⟨hy2,h⟩:=gd h
  obtain⟨y3_,hy3,h⟩:=oB h
  obtain⟨y4_,hy4,h⟩:=oB h
  have k0:=fun {A L l} (k:PL A L l)=>zz 1 (xdT hy1) <|
   zz 8 (xk1 (x0).num (x0).off (x0).cap hy2) <|
   zz 9 (lk2 hy3 (qj_ hy2)) <|
   yy 15 (.call (C_treesoundq1 (y3_.1) (y3_.2.1) (y3_.2.2.1) (y3_.2.2.2.1) (y3_.2.2.2.2.1) (y3_.2.2.2.2.2.1) (y3_.2.2.2.2.2.2.1) (y3_.2.2.2.2.2.2.2) y4_ [] [])) <|
   ww (qyi_ n (y3_.1) (y3_.2.1) (y3_.2.2.1) (y3_.2.2.2.1) (y3_.2.2.2.2.1) (y3_.2.2.2.2.2.1) (y3_.2.2.2.2.2.2.1) (y3_.2.2.2.2.2.2.2) y4_ hy4) <|
   k
  by_cases hy5:y4_=true
  ·rw[if_pos hy5] at h
   have k5:=fun {A L l} (k:PL A L l)=>yy 16 (vf) <|
    ww (p:=(Value.bool (!y4_))=(Value.bool false)) (vBn hy5) <|
    k
   by_cases hy6:(y3_.2.1)=1
   ·rw[if_pos hy6] at h
    have k7:=fun {A L l} (k:PL A L l)=>zz 20 (xeT hy6) <|
     k
    by_cases hy7:x2 > 0
    ·rw[if_pos hy7] at h
     obtain rfl:=oI h
     exact runC2 hm (kW [2] [] 0 0) (k0 <|
      k5 <|
      k7 <|
      zz 23 (xdT hy7) <|
      ee) (by kernel_rfl)
    ·rw[if_neg hy7] at h
     obtain rfl:=oI h
     exact runC2 hm (kW [16,17,18] [] 0 0) (k0 <|
      k5 <|
      k7 <|
      zz 23 (xdF hy7) <|
      ee) (by kernel_rfl)
   ·rw[if_neg hy6] at h
    obtain rfl:=oI h
    exact runC2 hm (kW [16,17,18] [] 0 0) (k0 <|
     k5 <|
     zz 20 (xeF hy6) <|
     ee) (by kernel_rfl)
  ·rw[if_neg hy5] at h
   obtain rfl:=oI h
   exact runC2 hm (kW [2] [] 0 0) (k0 <|
    yy 16 (vt) <|
    ww (p:=(Value.bool (!y4_))=(Value.bool true)) (vBn (Bool.eq_false_iff.2 hy5)) <|
    ee) (by kernel_rfl)
 ·rw[if_neg hy1] at h
  obtain rfl:=oI h
  exact runC2 hm (kW [] [] 0 0) (zz 1 (xdF hy1) <|
   ee) (by kernel_rfl)
theorem qov_ (n:Nat){rnd:Option Nat}(x0:W8)(x1 st:Int)(r:(Unit) ⊕ (Unit))(h:qh3_ n x0 x1 st=some r):qzg_ rnd x0 x1 st r:=
 CG.iter (b:=qp_ P 24 [false,false,true,false,true,true,true]) (by kernel_rfl) (body:=qcn_ n x0 x1) (S:=qkc_ x0 x1) (X:=qf1_ x0 x1)
  (fun s s' h=>qsx_ n x0 x1 s (.inl s') h)
  (fun s r h=>qsx_ n x0 x1 s (.inr r) h)
  (fun r=>by intro hx; rcases r with _ | _<;>cases hx) h
def q7_ (n:Nat)(a0:W8):Option (Int):=
 if (((a0).l.length:Nat):Int) > 524288 then
  some 3
 else
  if (((a0).l.length:Nat):Int)=0 then
   some 2
  else
   (qes_ n a0).bind fun c3_=>
   if c3_=true then
    match qh3_ n a0 (((a0).l.length:Nat):Int) 0 with
    | none=>none
    | some (.inl _)=>
     some 2
    | some (.inr _)=>
     some 0
   else
    some 2
theorem qc8_ (n:Nat)(a0:W8)(r:Int)(h:q7_ n a0=some r):G_treeCheckq1 a0 r:=by
 unfold q7_ at h
 by_cases hc1:(((a0).l.length:Nat):Int) > 524288
 ·rw[if_pos hc1] at h
  obtain rfl:=oI h
  exact runF2 hm (kW [2] [] 0 0) (zz 6 (xdT hc1) <|
   ee) (by kernel_rfl)
 ·rw[if_neg hc1] at h
  have k0:=fun {A L l} (k:PL A L l)=>zz 6 (xdF hc1) <|
   k
  by_cases hc2:(((a0).l.length:Nat):Int)=0
  ·rw[if_pos hc2] at h
   obtain rfl:=oI h
   exact runF2 hm (kW [2] [] 0 0) (k0 <|
    zz 12 (xeT hc2) <|
    ee) (by kernel_rfl)
  ·rw[if_neg hc2] at h
   obtain⟨c3_,hc3,h⟩:=oB h
   have k1:=fun {A L l} (k:PL A L l)=>zz 12 (xeF hc2) <|
    yy 15 (.call (qzf_ a0 c3_ [] [])) <|
    ww (qve_ n a0 c3_ hc3) <|
    k
   by_cases hc4:c3_=true
   ·rw[if_pos hc4] at h
    have k4:=fun {A L l} (k:PL A L l)=>yy 16 (vf) <|
     ww (p:=(Value.bool (!c3_))=(Value.bool false)) (vBn hc4) <|
     k
    rcases hc5:qh3_ n a0 (((a0).l.length:Nat):Int) 0 with _ | (⟨⟩ | ⟨⟩)
    ·rw[hc5] at h; cases h
    ·rw[hc5] at h
     dsimp only at h
     obtain rfl:=oI h
     exact runF2 hm (kW [2] [] 0 0) (k0 <|
      k1 <|
      k4 <|
      ww (qov_ n (rnd:=none) a0 (((a0).l.length:Nat):Int) 0 (.inl ()) hc5) <|
      ll 25 ⟨(kW [16,17,18] [] 0 0),(qf1_ a0 (((a0).l.length:Nat):Int) (.inl ())).1,(qf1_ a0 (((a0).l.length:Nat):Int) (.inl ())).2⟩ <|
      ee) (by kernel_rfl)
    ·rw[hc5] at h
     dsimp only at h
     obtain rfl:=oI h
     exact runF2 hm (kW [2] [] 0 0) (k0 <|
      k1 <|
      k4 <|
      ww (qov_ n (rnd:=none) a0 (((a0).l.length:Nat):Int) 0 (.inr ()) hc5) <|
      ll 25 ⟨(kW [16,17,18] [] 0 0),(qf1_ a0 (((a0).l.length:Nat):Int) (.inr ())).1,(qf1_ a0 (((a0).l.length:Nat):Int) (.inr ())).2⟩ <|
      ee) (by kernel_rfl)
   ·rw[if_neg hc4] at h
    obtain rfl:=oI h
    exact runF2 hm (kW [2] [] 0 0) (k0 <|
     k1 <|
     yy 16 (vt) <|
     ww (p:=(Value.bool (!c3_))=(Value.bool true)) (vBn (Bool.eq_false_iff.2 hc4)) <|
     ee) (by kernel_rfl)

def qv4_ (a0 a1 a2 a3 a4 a5:Int)(a6:NL)(a7 a8 a9 a10 a11 a12 a13:Int)(a14:NL)(a15:Int)(r:Bool):Value:=match r with
 | o0=>(bO o0)
def qv5_ (a0 a1 a2 a3 a4 a5:Int)(a6:NL)(a7 a8 a9 a10 a11 a12 a13:Int)(a14:NL)(a15:Int)(r:Bool):AH:=match r with
 | o0=>⟨sB [],0,0⟩
abbrev G_partsFitsq1 (a0 a1 a2 a3 a4 a5:Int)(a6:NL)(a7 a8 a9 a10 a11 a12 a13:Int)(a14:NL)(a15:Int)(r:Bool):Prop:=Gv P (.func 45) [(Value.agg #[(i6 a0),(i6 a1),(i6 a2),(i6 a3),(i6 a4),(i6 a5),(nlV a6),(Value.int .u64 a7)]),(Value.agg #[(i6 a8),(i6 a9),(i6 a10),(i6 a11),(i6 a12),(i6 a13),(nlV a14),(Value.int .u64 a15)])] ⟨sB [],0,0⟩ (qv4_ a0 a1 a2 a3 a4 a5 a6 a7 a8 a9 a10 a11 a12 a13 a14 a15 r) (qv5_ a0 a1 a2 a3 a4 a5 a6 a7 a8 a9 a10 a11 a12 a13 a14 a15 r)
abbrev qv6_ (a0 a1 a2 a3 a4 a5:Int)(a6:NL)(a7 a8 a9 a10 a11 a12 a13:Int)(a14:NL)(a15:Int)(r:Bool)(ins outs:BL):CallA:=⟨0,ins,qv4_ a0 a1 a2 a3 a4 a5 a6 a7 a8 a9 a10 a11 a12 a13 a14 a15 r,qv5_ a0 a1 a2 a3 a4 a5 a6 a7 a8 a9 a10 a11 a12 a13 a14 a15 r,outs⟩
def qix_ (n:Nat)(a0 a1 a2 a3 a4 a5:Int)(a6:NL)(a7 a8 a9 a10 a11 a12 a13:Int)(a14:NL)(a15:Int):Option (Bool):=
 if a0=a8 then
  if a1=a9 then
   if a2=a10 then
    if a4=a12 then
     some true
    else
     some false
   else
    some false
  else
   some false
 else
  some false
theorem qre_ (n:Nat)(a0 a1 a2 a3 a4 a5:Int)(a6:NL)(a7 a8 a9 a10 a11 a12 a13:Int)(a14:NL)(a15:Int)(r:Bool)(h:qix_ n a0 a1 a2 a3 a4 a5 a6 a7 a8 a9 a10 a11 a12 a13 a14 a15=some r):G_partsFitsq1 a0 a1 a2 a3 a4 a5 a6 a7 a8 a9 a10 a11 a12 a13 a14 a15 r:=by
 unfold qix_ at h
 by_cases hc1:a0=a8
 ·rw[if_pos hc1] at h
  have k0:=fun {A L l} (k:PL A L l)=>zz 9 (xeT hc1) <|
   k
  by_cases hc2:a1=a9
  ·rw[if_pos hc2] at h
   have k1:=fun {A L l} (k:PL A L l)=>zz 15 (xeT hc2) <|
    k
   by_cases hc3:a2=a10
   ·rw[if_pos hc3] at h
    have k2:=fun {A L l} (k:PL A L l)=>zz 22 (xeT hc3) <|
     k
    by_cases hc4:a4=a12
    ·rw[if_pos hc4] at h
     obtain rfl:=oI h
     exact runF2 hm (kW [4] [] 0 0) (k0 <|
      k1 <|
      k2 <|
      zz 29 (xeT hc4) <|
      ee) (by kernel_rfl)
    ·rw[if_neg hc4] at h
     obtain rfl:=oI h
     exact runF2 hm (kW [4] [] 0 0) (k0 <|
      k1 <|
      k2 <|
      zz 29 (xeF hc4) <|
      ee) (by kernel_rfl)
   ·rw[if_neg hc3] at h
    obtain rfl:=oI h
    exact runF2 hm (kW [4] [] 0 0) (k0 <|
     k1 <|
     zz 22 (xeF hc3) <|
     ee) (by kernel_rfl)
  ·rw[if_neg hc2] at h
   obtain rfl:=oI h
   exact runF2 hm (kW [4] [] 0 0) (k0 <|
    zz 15 (xeF hc2) <|
    ee) (by kernel_rfl)
 ·rw[if_neg hc1] at h
  obtain rfl:=oI h
  exact runF2 hm (kW [4] [] 0 0) (zz 9 (xeF hc1) <|
   ee) (by kernel_rfl)

def quh_ (a0:W8)(a1:Int)(a2:W8)(r:Bool):Value:=match r with
 | o0=>(bO o0)
def qui_ (a0:W8)(a1:Int)(a2:W8)(r:Bool):AH:=match r with
 | o0=>⟨sB [],0,0⟩
abbrev q1g_ (a0:W8)(a1:Int)(a2:W8)(r:Bool):Prop:=Gv P (.func 25) [(wlV a0),(i6 a1),(wlV a2)] ⟨sB [],0,0⟩ (quh_ a0 a1 a2 r) (qui_ a0 a1 a2 r)
abbrev quj_ (a0:W8)(a1:Int)(a2:W8)(r:Bool)(ins outs:BL):CallA:=⟨0,ins,quh_ a0 a1 a2 r,qui_ a0 a1 a2 r,outs⟩
def qfu_ (n:Nat)(a0:W8)(a1:Int)(a2:W8):Option (Bool):=
 if a1 ≥ 0 then
  if a1<(((a0).l.length:Nat):Int) then
   if 0≤a1∧a1<(((a0).l.length:Nat):Int) then
    ((some (((a0).l).getD (a1).toNat (0,0,0,0,0,0,nl0,0)))).bind fun c4_=>
    if 0≤(0:Int)∧(0:Int)<(((a2).l.length:Nat):Int) then
     ((some (((a2).l).getD ((0:Int)).toNat (0,0,0,0,0,0,nl0,0)))).bind fun c6_=>
     (qix_ n (c4_.1) (c4_.2.1) (c4_.2.2.1) (c4_.2.2.2.1) (c4_.2.2.2.2.1) (c4_.2.2.2.2.2.1) (c4_.2.2.2.2.2.2.1) (c4_.2.2.2.2.2.2.2) (c6_.1) (c6_.2.1) (c6_.2.2.1) (c6_.2.2.2.1) (c6_.2.2.2.2.1) (c6_.2.2.2.2.2.1) (c6_.2.2.2.2.2.2.1) (c6_.2.2.2.2.2.2.2)).bind fun c7_=>
     some c7_
    else none
   else none
  else
   some false
 else
  some false
theorem qp2_ (n:Nat)(a0:W8)(a1:Int)(a2:W8)(r:Bool)(h:qfu_ n a0 a1 a2=some r):q1g_ a0 a1 a2 r:=by
 unfold qfu_ at h
 by_cases hc1:a1 ≥ 0
 ·rw[if_pos hc1] at h
  have k0:=fun {A L l} (k:PL A L l)=>zz 4 (xdT hc1) <|
   k
  by_cases hc2:a1<(((a0).l.length:Nat):Int)
  ·rw[if_pos hc2] at h
   obtain⟨hc3,h⟩:=gd h
   obtain⟨c4_,hc4,h⟩:=oB h
   obtain⟨hc5,h⟩:=gd h
   obtain⟨c6_,hc6,h⟩:=oB h
   obtain⟨c7_,hc7,h⟩:=oB h
   obtain rfl:=oI h
   exact runF2 hm (kW [6] [] 0 0) (k0 <|
    zz 9 (xdT hc2) <|
    zz 14 (xk1 (a0).num (a0).off (a0).cap hc3) <|
    zz 15 (lk2 hc4 (qj_ hc3)) <|
    zz 17 (xk1 (a2).num (a2).off (a2).cap hc5) <|
    zz 18 (lk2 hc6 (qj_ hc5)) <|
    yy 19 (.call (qv6_ (c4_.1) (c4_.2.1) (c4_.2.2.1) (c4_.2.2.2.1) (c4_.2.2.2.2.1) (c4_.2.2.2.2.2.1) (c4_.2.2.2.2.2.2.1) (c4_.2.2.2.2.2.2.2) (c6_.1) (c6_.2.1) (c6_.2.2.1) (c6_.2.2.2.1) (c6_.2.2.2.2.1) (c6_.2.2.2.2.2.1) (c6_.2.2.2.2.2.2.1) (c6_.2.2.2.2.2.2.2) c7_ [] [])) <|
    ww (qre_ n (c4_.1) (c4_.2.1) (c4_.2.2.1) (c4_.2.2.2.1) (c4_.2.2.2.2.1) (c4_.2.2.2.2.2.1) (c4_.2.2.2.2.2.2.1) (c4_.2.2.2.2.2.2.2) (c6_.1) (c6_.2.1) (c6_.2.2.1) (c6_.2.2.2.1) (c6_.2.2.2.2.1) (c6_.2.2.2.2.2.1) (c6_.2.2.2.2.2.2.1) (c6_.2.2.2.2.2.2.2) c7_ hc7) <|
    ee) (by kernel_rfl)
  ·rw[if_neg hc2] at h
   obtain rfl:=oI h
   exact runF2 hm (kW [6] [] 0 0) (k0 <|
    zz 9 (xdF hc2) <|
    ee) (by kernel_rfl)
 ·rw[if_neg hc1] at h
  obtain rfl:=oI h
  exact runF2 hm (kW [6] [] 0 0) (zz 4 (xdF hc1) <|
   ee) (by kernel_rfl)

def qyj_ (a0:W8)(a1 r:Int):Value:=match r with
 | o0=>(i6 o0)
def qyk_ (a0:W8)(a1 r:Int):AH:=match r with
 | o0=>⟨sB [],0,0⟩
abbrev G_partsEndq1 (a0:W8)(a1 r:Int):Prop:=Gv P (.func 46) [(wlV a0),(i6 a1)] ⟨sB [],0,0⟩ (qyj_ a0 a1 r) (qyk_ a0 a1 r)
abbrev qyl_ (a0:W8)(a1 r:Int)(ins outs:BL):CallA:=⟨0,ins,qyj_ a0 a1 r,qyk_ a0 a1 r,outs⟩
def ql2_ (x0:W8)(st:Int):XSt:=match st with
 | x1=>(sT 28 [(0,(wlV x0)),(1,(i6 x1))],[],⟨sB [],0,0⟩)
def qi7_ (x0:W8)(r:Int):Ex×XSt:=match r with
 | z0=>(.exit 0,(sT 28 [(1,(i6 z0))],[],⟨sB [],0,0⟩))
abbrev q1h_ (rd:Option Nat)(x0:W8)(st r:Int):Prop:=CG P rd (fnN P 46) 0 (qp_ P 46 [false,false,true]) (ql2_ x0 st) (qi7_ x0 r)
def qhn_ (n:Nat)(x0:W8)(st:Int):Option ((Int) ⊕ (Int)):=match st with
 | x1=>
  if 0≤x1∧x1<(((x0).l.length:Nat):Int) then
   ((some (((x0).l).getD (x1).toNat (0,0,0,0,0,0,nl0,0)))).bind fun y2_=>
   if ((((y2_.2.2.2.2.2.2.1)).l.length:Nat):Int) > 0 then
    ((some (w64 (((((y2_.2.2.2.2.2.2.1)).l.length:Nat):Int)-1)))).bind fun y4_=>
    if 0≤y4_∧y4_<((((y2_.2.2.2.2.2.2.1)).l.length:Nat):Int) then
     if (y4_).toNat<(((y2_.2.2.2.2.2.2.1)).l).length then
      ((some ((((y2_.2.2.2.2.2.2.1)).l).getD (y4_).toNat 0))).bind fun y7_=>
      some (.inl y7_)
     else none
    else none
   else
    some (.inr x1)
  else none
def qph_ (n:Nat)(x0:W8)(st:Int):Option (Int):=iterM (qhn_ n x0) n st
theorem quk_ (n:Nat){rnd:Option Nat}(x0:W8)(x1:Int)(o:(Int) ⊕ (Int))(h:qhn_ n x0 x1=some o):CG P rnd (fnN P 46) 0 (qp_ P 46 [false,false,false,true]) (ql2_ x0 x1) (Sum.elim (fun s=>(.normal,ql2_ x0 s)) (fun r=>qi7_ x0 r) o):=by
 unfold qhn_ at h
 dsimp only at h
 obtain⟨hy1,h⟩:=gd h
 obtain⟨y2_,hy2,h⟩:=oB h
 have k0:=fun {A L l} (k:PL A L l)=>zz 4 (xk1 (x0).num (x0).off (x0).cap hy1) <|
  zz 5 (fk11 (x0).num (Nat.add (x0).off ((x1).toNat*8))) <|
  zz 6 (lk12 hy2 (qj_ hy1)) <|
  k
 by_cases hy3:((((y2_.2.2.2.2.2.2.1)).l.length:Nat):Int) > 0
 ·rw[if_pos hy3] at h
  obtain⟨y4_,hy4,h⟩:=oB h
  obtain⟨hy5,h⟩:=gd h
  obtain⟨hy6,h⟩:=gd h
  obtain⟨y7_,hy7,h⟩:=oB h
  obtain rfl:=oI h
  exact runC2 hm (kW [0,1] [] 0 0) (k0 <|
   zz 8 (xdT hy3) <|
   zz 13 (xk1 (x0).num (x0).off (x0).cap hy1) <|
   zz 14 (fk11 (x0).num (Nat.add (x0).off ((x1).toNat*8))) <|
   zz 15 (lk12 hy2 (qj_ hy1)) <|
   zz 18 (xk1 (x0).num (x0).off (x0).cap hy1) <|
   zz 19 (fk11 (x0).num (Nat.add (x0).off ((x1).toNat*8))) <|
   zz 20 (lk12 hy2 (qj_ hy1)) <|
   zz 22 (xnm hy4) <|
   zz 23 (xk8 (Nat.add ((y2_.2.2.2.2.2.2.1)).num 64) ((y2_.2.2.2.2.2.2.1)).off ((y2_.2.2.2.2.2.2.1)).cap hy5) <|
   zz 24 (nk9 hy7 hy6) <|
   ee) (by kernel_rfl)
 ·rw[if_neg hy3] at h
  obtain rfl:=oI h
  exact runC2 hm (kW [1] [] 0 0) (k0 <|
   zz 8 (xdF hy3) <|
   ee) (by kernel_rfl)
theorem qwp_ (n:Nat){rnd:Option Nat}(x0:W8)(st r:Int)(h:qph_ n x0 st=some r):q1h_ rnd x0 st r:=
 CG.iter (b:=qp_ P 46 [false,false,false,true]) (by kernel_rfl) (body:=qhn_ n x0) (S:=ql2_ x0) (X:=qi7_ x0)
  (fun s s' h=>quk_ n x0 s (.inl s') h)
  (fun s r h=>quk_ n x0 s (.inr r) h)
  (fun r=>by intro hx; cases hx) h
def qil_ (n:Nat)(a0:W8)(a1:Int):Option (Int):=
 (qph_ n a0 a1).bind fun c1_=>
 some (w64 (c1_+1))
theorem qsy_ (n:Nat)(a0:W8)(a1 r:Int)(h:qil_ n a0 a1=some r):G_partsEndq1 a0 a1 r:=by
 unfold qil_ at h
 obtain⟨c1_,hc1,h⟩:=oB h
 obtain rfl:=oI h
 exact runF2 hm (kW [4] [] 0 0) (ww (qwp_ n (rnd:=none) a0 a1 c1_ hc1) <|
  ll 4 ⟨(kW [0,1] [] 0 0),(qi7_ a0 c1_).1,(qi7_ a0 c1_).2⟩ <|
  ee) (by kernel_rfl)

def V_treePut1q1 (a0 a1 a2 r:Int):Value:=match r with
 | o0=>(i6 o0)
def R_treePut1q1 (a0 a1 a2 r:Int):AH:=match r with
 | o0=>⟨sB [],2,2⟩
abbrev G_treePut1q1 (a0 a1 a2 r:Int):Prop:=Gv P (.func 47) [(i6 a0),(pN 0 0),(pN 1 0)] ⟨sB [(0,(cB [(i6 a1)] 3)),(1,(cB [(i6 a2)] 3))],2,2⟩ (V_treePut1q1 a0 a1 a2 r) (R_treePut1q1 a0 a1 a2 r)
def qym_ (n:Nat)(a0 a1 a2:Int):Option (Int):=
 if a0 ≥ a1 then
  some (w64 (a0+a2))
 else
  some a0
theorem m_treePut1q1_ok (n:Nat)(a0 a1 a2 r:Int)(h:qym_ n a0 a1 a2=some r):G_treePut1q1 a0 a1 a2 r:=by
 unfold qym_ at h
 by_cases hc1:a0 ≥ a1
 ·rw[if_pos hc1] at h
  obtain rfl:=oI h
  exact runF2 hm (kW [4] [] 2 2) (zz 6 (xdT hc1) <|
   ee) (by kernel_rfl)
 ·rw[if_neg hc1] at h
  obtain rfl:=oI h
  exact runF2 hm (kW [4] [] 2 2) (zz 6 (xdF hc1) <|
   ee) (by kernel_rfl)

def qyn_ (a0:Int)(a1 a2:List Int)(r:Int):Value:=match r with
 | o0=>(i6 o0)
def qyo_ (a0:Int)(a1 a2:List Int)(r:Int):AH:=match r with
 | o0=>⟨sB [],2,2⟩
abbrev G_treePut1q2 (a0:Int)(a1 a2:List Int)(r:Int):Prop:=Gv P (.func 47) [(i6 a0),(pN 0 0),(pN 1 0)] ⟨sB [(0,(cB (iv a1) 3)),(1,(cB (iv a2) 3))],2,2⟩ (qyn_ a0 a1 a2 r) (qyo_ a0 a1 a2 r)
abbrev C_treePut1q2 (a0:Int)(a1 a2:List Int)(r:Int)(ins outs:BL):CallA:=⟨2,ins,qyn_ a0 a1 a2 r,qyo_ a0 a1 a2 r,outs⟩
def qmp_ (n:Nat)(a0:Int)(a1 a2:List Int):Option (Int):=
 if 0<(a1).length then
  ((some ((a1).getD 0 0))).bind fun c2_=>
  if a0 ≥ c2_ then
   if 0<(a2).length then
    ((some ((a2).getD 0 0))).bind fun c5_=>
    some (w64 (a0+c5_))
   else none
  else
   some a0
 else none
theorem qzh_ (n:Nat)(a0:Int)(a1 a2:List Int)(r:Int)(h:qmp_ n a0 a1 a2=some r):G_treePut1q2 a0 a1 a2 r:=by
 unfold qmp_ at h
 obtain⟨hc1,h⟩:=gd h
 obtain⟨c2_,hc2,h⟩:=oB h
 have k0:=fun {A L l} (k:PL A L l)=>zz 5 (xivN hc2 (hc1)) <|
  k
 by_cases hc3:a0 ≥ c2_
 ·rw[if_pos hc3] at h
  obtain⟨hc4,h⟩:=gd h
  obtain⟨c5_,hc5,h⟩:=oB h
  obtain rfl:=oI h
  exact runF2 hm (kW [4] [] 2 2) (k0 <|
   zz 6 (xdT hc3) <|
   zz 10 (xivN hc5 (hc4)) <|
   ee) (by kernel_rfl)
 ·rw[if_neg hc3] at h
  obtain rfl:=oI h
  exact runF2 hm (kW [4] [] 2 2) (k0 <|
   zz 6 (xdF hc3) <|
   ee) (by kernel_rfl)

def qow_ (a0:NL)(a1 a2:Int):List Value:=[(nlV a0),(Value.func (.func 47) #[] #[(pN 0 0),(pN 1 0)])]
def qox_ (a0:NL)(a1 a2:Int):AH:=⟨sB [(0,(cB [(i6 a1)] 3)),(1,(cB [(i6 a2)] 3))],2,2⟩
def qoy_ (a0:NL)(a1 a2:Int)(r:NL):Value:=match r with
 | o0=>(nlV o0)
def qj5_ (a0:NL)(a1 a2:Int)(r:NL):AH:=match r with
 | o0=>⟨sB [],2,2⟩
abbrev qvf_ (a0:NL)(a1 a2:Int)(r:NL):Prop:=Gv P (.func 61) (qow_ a0 a1 a2) (qox_ a0 a1 a2) (qoy_ a0 a1 a2 r) (qj5_ a0 a1 a2 r)
abbrev qvg_ (a0:NL)(a1 a2:Int)(r:NL)(ins outs:BL):CallA:=⟨2,ins,qoy_ a0 a1 a2 r,qj5_ a0 a1 a2 r,outs⟩
def qgi_ (x0 x1:List Int)(x3:Nat)(x4:NL)(x5:Int)(st:List Int×Int):XSt:=match st with
 | (x2,x6)=>(sT 29 [(1,(Value.func (.func 47) #[] #[(pN 0 0),(pN 1 0)])),(5,(sN 2 0 x3 x3)),(14,(nlV x4)),(15,(i6 x5)),(16,(i6 x6))],[],⟨sB [(0,(cB (iv x0) 3)),(1,(cB (iv x1) 3)),(2,(cB (iv x2) 3))],3,2⟩)
def qex_ (x0 x1:List Int)(x3:Nat)(x4:NL)(x5:Int)(r:List Int):Ex×XSt:=match r with
 | z0=>(.exit 0,(sT 29 [(5,(sN 2 0 x3 x3))],[],⟨sB [(0,(cB (iv x0) 3)),(1,(cB (iv x1) 3)),(2,(cB (iv z0) 3))],3,2⟩))
abbrev qtf_ (rnd:Option Nat)(x0 x1:List Int)(x3:Nat)(x4:NL)(x5:Int)(st:List Int×Int)(c:Ex×XSt):Prop:=CG P rnd (fnN P 61) 2 (qp_ P 61 [false,false,true,false,true,true,true]) (qgi_ x0 x1 x3 x4 x5 st) c
abbrev qtg_ (rd:Option Nat)(x0 x1:List Int)(x3:Nat)(x4:NL)(x5:Int)(st:List Int×Int)(r:List Int):Prop:=CG P rd (fnN P 61) 2 (qp_ P 61 [false,true,false,true,true,true]) (qgi_ x0 x1 x3 x4 x5 st) (qex_ x0 x1 x3 x4 x5 r)
def qcx_ (n:Nat)(x0 x1:List Int)(x3:Nat)(x4:NL)(x5:Int)(st:List Int×Int):Option ((List Int×Int) ⊕ (List Int)):=match st with
 | (x2,x6)=>
  if x6<x5 then
   if 0≤x6∧x6<(((x4).l.length:Nat):Int) then
    if (x6).toNat<((x4).l).length then
     ((some (((x4).l).getD (x6).toNat 0))).bind fun y4_=>
     (qmp_ n y4_ x0 x1).bind fun y5_=>
     if 0≤x6∧x6<((x3:Nat):Int) then
      if (x6).toNat<(x2).length then
       some (.inl (((x2).set (x6).toNat y5_),(w64 (x6+1))))
      else none
     else none
    else none
   else none
  else
   some (.inr x2)
def qim_ (n:Nat)(x0 x1:List Int)(x3:Nat)(x4:NL)(x5:Int)(st:List Int×Int):Option (List Int):=iterM (qcx_ n x0 x1 x3 x4 x5) n st
theorem qmq_ (n:Nat){rnd:Option Nat}(x0 x1:List Int)(x3:Nat)(x4:NL)(x5:Int)(st:List Int×Int)(o:(List Int×Int) ⊕ (List Int))(h:qcx_ n x0 x1 x3 x4 x5 st=some o):qtf_ rnd x0 x1 x3 x4 x5 st (Sum.elim (fun s=>(.normal,qgi_ x0 x1 x3 x4 x5 s)) (fun r=>qex_ x0 x1 x3 x4 x5 r) o):=by
 obtain⟨x2,x6⟩:=st
 unfold qcx_ at h
 dsimp only at h
 by_cases hy1:x6<x5
 ·rw[if_pos hy1] at h
  obtain⟨hy2,h⟩:=gd h
  obtain⟨hy3,h⟩:=gd h
  obtain⟨y4_,hy4,h⟩:=oB h
  obtain⟨y5_,hy5,h⟩:=oB h
  obtain⟨hy6,h⟩:=gd h
  obtain⟨hy7,h⟩:=gd h
  obtain rfl:=oI h
  exact runC2 hm (kW [1,5,14,15,16] [(0,0,true),(1,1,true),(2,2,true)] 3 2) (zz 1 (xdT hy1) <|
   zz 8 (xk8 (Nat.add (x4).num 64) (x4).off (x4).cap hy2) <|
   zz 9 (nk9 hy4 hy3) <|
   yy 16 (.call (C_treePut1q2 y4_ x0 x1 y5_ [(0,0,true),(1,1,true)] [])) <|
   ww (qzh_ n y4_ x0 x1 y5_ hy5) <|
   ww (qco_ x0 3) <|
   ww (qco_ x1 3) <|
   zz 17 (xk13 2 x3 hy6) <|
   z2 18 (stI (y5_) hy7) <|
   ww (qco_ x0 3) <|
   ww (qco_ x1 3) <|
   ww (qco_ ((x2).set (x6).toNat y5_) 3) <|
   ee) (by kernel_rfl)
 ·rw[if_neg hy1] at h
  obtain rfl:=oI h
  exact runC2 hm (kW [5] [(0,0,true),(1,1,true),(2,2,true)] 3 2) (zz 1 (xdF hy1) <|
   ww (qco_ x0 3) <|
   ww (qco_ x1 3) <|
   ww (qco_ x2 3) <|
   ee) (by kernel_rfl)
theorem qqe_ (n:Nat){rnd:Option Nat}(x0 x1:List Int)(x3:Nat)(x4:NL)(x5:Int)(st:List Int×Int)(r:List Int)(h:qim_ n x0 x1 x3 x4 x5 st=some r):qtg_ rnd x0 x1 x3 x4 x5 st r:=
 CG.iter (b:=qp_ P 61 [false,false,true,false,true,true,true]) (by kernel_rfl) (body:=qcx_ n x0 x1 x3 x4 x5) (S:=qgi_ x0 x1 x3 x4 x5) (X:=qex_ x0 x1 x3 x4 x5)
  (fun s s' h=>qmq_ n x0 x1 x3 x4 x5 s (.inl s') h)
  (fun s r h=>qmq_ n x0 x1 x3 x4 x5 s (.inr r) h)
  (fun r=>by intro hx; cases hx) h
def qdu_ (n:Nat)(a0:NL)(a1 a2:Int):Option (NL):=
 if (((a0).l.length:Nat):Int)=0 then
  some nl0
 else
  if 0≤(((a0).l.length:Nat):Int) then
   if ((((a0).l.length:Nat):Int)).toNat*8≤140737488355328 then
    (qim_ n [a1] [a2] (((((a0).l.length:Nat):Int)).toNat) a0 (((a0).l.length:Nat):Int) ((List.replicate ((((a0).l.length:Nat):Int)).toNat (0:Int)),0)).bind fun c4_=>
    if (((((a0).l.length:Nat):Int)).toNat)=c4_.length then
     if hc6:c4_.length≤140737488355328 then
      some (frzL c4_ hc6)
     else none
    else none
   else none
  else none
theorem qr9_ (n:Nat)(a0:NL)(a1 a2:Int)(r:NL)(h:qdu_ n a0 a1 a2=some r):qvf_ a0 a1 a2 r:=by
 unfold qdu_ at h
 by_cases hc1:(((a0).l.length:Nat):Int)=0
 ·rw[if_pos hc1] at h
  obtain rfl:=oI h
  exact runF2 hm ⟨[4],[],2,2,[],true,[],[],[4]⟩ (zz 6 (xeT hc1) <|
   ee) (by kernel_rfl)
 ·rw[if_neg hc1] at h
  obtain⟨hc2,h⟩:=gd h
  obtain⟨hc3,h⟩:=gd h
  obtain⟨c4_,hc4,h⟩:=oB h
  obtain⟨hc5,h⟩:=gd h
  obtain⟨hc6,h⟩:=gdD h
  obtain rfl:=oI h
  have k0_:Gv P (.func 61) (qow_ a0 a1 a2) (qox_ a0 a1 a2) (Value.slice (some ⟨Nat.add (2*cod c4_+1) 64,0,some 1⟩) (((((a0).l.length:Nat):Int)).toNat) (Nat.add big (((((a0).l.length:Nat):Int)).toNat))) (qj5_ a0 a1 a2 (frzL c4_ hc6)):=runF2 hm ⟨[4],[],2,2,[(2,Nat.add (2*cod c4_+1) 64)],true,[],[],[]⟩ (zz 6 (xeF hc1) <|
  yy 11 (.mk ((((a0).l.length:Nat):Int)).toNat (iv (List.replicate ((((a0).l.length:Nat):Int)).toNat (0:Int)))) <|
  ww (p:=natOf (i6 (((a0).l.length:Nat):Int))=some ((((a0).l.length:Nat):Int)).toNat) (qeu_ hc2) <|
  ww (p:=natOf (i6 (((a0).l.length:Nat):Int))=some ((((a0).l.length:Nat):Int)).toNat) (qeu_ hc2) <|
  ww (p:=fits ((((a0).l.length:Nat):Int)).toNat 8=true) (fits_ok hc3 (by omega)) <|
  ww (p:=isZ8 [(i6 (0:Int))]=false) (rfl) <|
  ww (p:=reps [(i6 (0:Int))] ((((a0).l.length:Nat):Int)).toNat=(iv (List.replicate ((((a0).l.length:Nat):Int)).toNat (0:Int)))) (qz5_ _) <|
  ww (qqe_ n (rnd:=none) [a1] [a2] (((((a0).l.length:Nat):Int)).toNat) a0 (((a0).l.length:Nat):Int) ((List.replicate ((((a0).l.length:Nat):Int)).toNat (0:Int)),0) c4_ hc4) <|
  ww (qco_ (List.replicate ((((a0).l.length:Nat):Int)).toNat (0:Int)) 3) <|
  ll 19 ⟨(kW [1,5,14,15,16] [(0,0,false),(1,1,false),(2,2,true)] 3 2),(qex_ [a1] [a2] (((((a0).l.length:Nat):Int)).toNat) a0 (((a0).l.length:Nat):Int) c4_).1,(qex_ [a1] [a2] (((((a0).l.length:Nat):Int)).toNat) a0 (((a0).l.length:Nat):Int) c4_).2⟩ <|
  ww (qon_ ql_ q2_ c4_) <|
  ee) (by kernel_rfl)
  have k1_:=gvLen (fn:=fun m_=>(Value.slice (some ⟨Nat.add (2*cod c4_+1) 64,0,some 1⟩) m_ (Nat.add big m_))) hc5 k0_
  exact k1_

def qv7_ (a0 a1 a2 a3 a4 a5:Int)(a6:NL)(a7 a8 a9:Int)(r:NL):Value:=match r with
 | o0=>(Value.agg #[(i6 a0),(i6 a1),(i6 a2),(i6 a3),(i6 a4),(i6 a5),(nlV o0),(Value.int .u64 a7)])
def qv8_ (a0 a1 a2 a3 a4 a5:Int)(a6:NL)(a7 a8 a9:Int)(r:NL):AH:=match r with
 | o0=>⟨sB [(2,(cB [(i6 a0),(i6 a1),(i6 a2),(i6 a3),(i6 a4),(i6 a5),(nlV o0),(Value.int .u64 a7)] 46))],3,2⟩
abbrev G_treemovedq1 (a0 a1 a2 a3 a4 a5:Int)(a6:NL)(a7 a8 a9:Int)(r:NL):Prop:=Gv P (.func 49) [(Value.agg #[(i6 a0),(i6 a1),(i6 a2),(i6 a3),(i6 a4),(i6 a5),(nlV a6),(Value.int .u64 a7)]),(Value.func (.func 47) #[] #[(pN 0 0),(pN 1 0)])] ⟨sB [(0,(cB [(i6 a8)] 3)),(1,(cB [(i6 a9)] 3))],2,2⟩ (qv7_ a0 a1 a2 a3 a4 a5 a6 a7 a8 a9 r) (qv8_ a0 a1 a2 a3 a4 a5 a6 a7 a8 a9 r)
abbrev qv9_ (a0 a1 a2 a3 a4 a5:Int)(a6:NL)(a7 a8 a9:Int)(r:NL)(ins outs:BL):CallA:=⟨2,ins,qv7_ a0 a1 a2 a3 a4 a5 a6 a7 a8 a9 r,qv8_ a0 a1 a2 a3 a4 a5 a6 a7 a8 a9 r,outs⟩
def qiy_ (n:Nat)(a0 a1 a2 a3 a4 a5:Int)(a6:NL)(a7 a8 a9:Int):Option (NL):=
 (qdu_ n a6 a8 a9).bind fun c1_=>
 some c1_
theorem qrf_ (n:Nat)(a0 a1 a2 a3 a4 a5:Int)(a6:NL)(a7 a8 a9:Int)(r:NL)(h:qiy_ n a0 a1 a2 a3 a4 a5 a6 a7 a8 a9=some r):G_treemovedq1 a0 a1 a2 a3 a4 a5 a6 a7 a8 a9 r:=by
 unfold qiy_ at h
 obtain⟨c1_,hc1,h⟩:=oB h
 obtain rfl:=oI h
 exact runF2 hm (kW [4] [(2,3,false)] 3 2) (yy 7 (.call (qvg_ a6 a8 a9 c1_ (iD 2) [])) <|
  ww (qr9_ n a6 a8 a9 c1_ hc1) <|
  ee) (by kernel_rfl)

def V_treePut2q1 (a0 a1:Int)(r:Unit):Value:=match r with
 | _=>(i6 (w64 (a0+a1)))
def R_treePut2q1 (a0 a1:Int)(r:Unit):AH:=match r with
 | _=>⟨sB [],1,1⟩
abbrev G_treePut2q1 (a0 a1:Int)(r:Unit):Prop:=Gv P (.func 48) [(i6 a0),(pN 0 0)] ⟨sB [(0,(cB [(i6 a1)] 3))],1,1⟩ (V_treePut2q1 a0 a1 r) (R_treePut2q1 a0 a1 r)
def qyp_ (n:Nat)(a0 a1:Int):Option (Unit):=
 some ()
theorem m_treePut2q1_ok (n:Nat)(a0 a1:Int)(r:Unit)(h:qyp_ n a0 a1=some r):G_treePut2q1 a0 a1 r:=by
 unfold qyp_ at h
 obtain rfl:=oI h
 exact runF2 hm (kW [3] [] 1 1) (ee) (by kernel_rfl)

def qyq_ (a0:Int)(a1:List Int)(r:Int):Value:=match r with
 | o0=>(i6 o0)
def qyr_ (a0:Int)(a1:List Int)(r:Int):AH:=match r with
 | o0=>⟨sB [],1,1⟩
abbrev G_treePut2q2 (a0:Int)(a1:List Int)(r:Int):Prop:=Gv P (.func 48) [(i6 a0),(pN 0 0)] ⟨sB [(0,(cB (iv a1) 3))],1,1⟩ (qyq_ a0 a1 r) (qyr_ a0 a1 r)
abbrev C_treePut2q2 (a0:Int)(a1:List Int)(r:Int)(ins outs:BL):CallA:=⟨1,ins,qyq_ a0 a1 r,qyr_ a0 a1 r,outs⟩
def qmr_ (n:Nat)(a0:Int)(a1:List Int):Option (Int):=
 if 0<(a1).length then
  ((some ((a1).getD 0 0))).bind fun c2_=>
  some (w64 (a0+c2_))
 else none
theorem qzi_ (n:Nat)(a0:Int)(a1:List Int)(r:Int)(h:qmr_ n a0 a1=some r):G_treePut2q2 a0 a1 r:=by
 unfold qmr_ at h
 obtain⟨hc1,h⟩:=gd h
 obtain⟨c2_,hc2,h⟩:=oB h
 obtain rfl:=oI h
 exact runF2 hm (kW [3] [] 1 1) (zz 4 (xivN hc2 (hc1)) <|
  ee) (by kernel_rfl)

def qoz_ (a0:NL)(a1:Int):List Value:=[(nlV a0),(Value.func (.func 48) #[] #[(pN 0 0)])]
def qo0_ (a0:NL)(a1:Int):AH:=⟨sB [(0,(cB [(i6 a1)] 3))],1,1⟩
def qo1_ (a0:NL)(a1:Int)(r:NL):Value:=match r with
 | o0=>(nlV o0)
def qj6_ (a0:NL)(a1:Int)(r:NL):AH:=match r with
 | o0=>⟨sB [],1,1⟩
abbrev qvh_ (a0:NL)(a1:Int)(r:NL):Prop:=Gv P (.func 61) (qoz_ a0 a1) (qo0_ a0 a1) (qo1_ a0 a1 r) (qj6_ a0 a1 r)
abbrev qvi_ (a0:NL)(a1:Int)(r:NL)(ins outs:BL):CallA:=⟨1,ins,qo1_ a0 a1 r,qj6_ a0 a1 r,outs⟩
def qgj_ (x0:List Int)(x2:Nat)(x3:NL)(x4:Int)(st:List Int×Int):XSt:=match st with
 | (x1,x5)=>(sT 29 [(1,(Value.func (.func 48) #[] #[(pN 0 0)])),(5,(sN 1 0 x2 x2)),(14,(nlV x3)),(15,(i6 x4)),(16,(i6 x5))],[],⟨sB [(0,(cB (iv x0) 3)),(1,(cB (iv x1) 3))],2,1⟩)
def qey_ (x0:List Int)(x2:Nat)(x3:NL)(x4:Int)(r:List Int):Ex×XSt:=match r with
 | z0=>(.exit 0,(sT 29 [(5,(sN 1 0 x2 x2))],[],⟨sB [(0,(cB (iv x0) 3)),(1,(cB (iv z0) 3))],2,1⟩))
abbrev qth_ (rnd:Option Nat)(x0:List Int)(x2:Nat)(x3:NL)(x4:Int)(st:List Int×Int)(c:Ex×XSt):Prop:=CG P rnd (fnN P 61) 1 (qp_ P 61 [false,false,true,false,true,true,true]) (qgj_ x0 x2 x3 x4 st) c
abbrev qti_ (rd:Option Nat)(x0:List Int)(x2:Nat)(x3:NL)(x4:Int)(st:List Int×Int)(r:List Int):Prop:=CG P rd (fnN P 61) 1 (qp_ P 61 [false,true,false,true,true,true]) (qgj_ x0 x2 x3 x4 st) (qey_ x0 x2 x3 x4 r)
def qcy_ (n:Nat)(x0:List Int)(x2:Nat)(x3:NL)(x4:Int)(st:List Int×Int):Option ((List Int×Int) ⊕ (List Int)):=match st with
 | (x1,x5)=>
  if x5<x4 then
   if 0≤x5∧x5<(((x3).l.length:Nat):Int) then
    if (x5).toNat<((x3).l).length then
     ((some (((x3).l).getD (x5).toNat 0))).bind fun y4_=>
     (qmr_ n y4_ x0).bind fun y5_=>
     if 0≤x5∧x5<((x2:Nat):Int) then
      if (x5).toNat<(x1).length then
       some (.inl (((x1).set (x5).toNat y5_),(w64 (x5+1))))
      else none
     else none
    else none
   else none
  else
   some (.inr x1)
def qin_ (n:Nat)(x0:List Int)(x2:Nat)(x3:NL)(x4:Int)(st:List Int×Int):Option (List Int):=iterM (qcy_ n x0 x2 x3 x4) n st
theorem qms_ (n:Nat){rnd:Option Nat}(x0:List Int)(x2:Nat)(x3:NL)(x4:Int)(st:List Int×Int)(o:(List Int×Int) ⊕ (List Int))(h:qcy_ n x0 x2 x3 x4 st=some o):qth_ rnd x0 x2 x3 x4 st (Sum.elim (fun s=>(.normal,qgj_ x0 x2 x3 x4 s)) (fun r=>qey_ x0 x2 x3 x4 r) o):=by
 obtain⟨x1,x5⟩:=st
 unfold qcy_ at h
 dsimp only at h
 by_cases hy1:x5<x4
 ·rw[if_pos hy1] at h
  obtain⟨hy2,h⟩:=gd h
  obtain⟨hy3,h⟩:=gd h
  obtain⟨y4_,hy4,h⟩:=oB h
  obtain⟨y5_,hy5,h⟩:=oB h
  obtain⟨hy6,h⟩:=gd h
  obtain⟨hy7,h⟩:=gd h
  obtain rfl:=oI h
  exact runC2 hm (kW [1,5,14,15,16] [(0,0,true),(1,1,true)] 2 1) (zz 1 (xdT hy1) <|
   zz 8 (xk8 (Nat.add (x3).num 64) (x3).off (x3).cap hy2) <|
   zz 9 (nk9 hy4 hy3) <|
   yy 16 (.call (C_treePut2q2 y4_ x0 y5_ [(0,0,true)] [])) <|
   ww (qzi_ n y4_ x0 y5_ hy5) <|
   ww (qco_ x0 3) <|
   zz 17 (xk13 1 x2 hy6) <|
   z2 18 (stI (y5_) hy7) <|
   ww (qco_ x0 3) <|
   ww (qco_ ((x1).set (x5).toNat y5_) 3) <|
   ee) (by kernel_rfl)
 ·rw[if_neg hy1] at h
  obtain rfl:=oI h
  exact runC2 hm (kW [5] [(0,0,true),(1,1,true)] 2 1) (zz 1 (xdF hy1) <|
   ww (qco_ x0 3) <|
   ww (qco_ x1 3) <|
   ee) (by kernel_rfl)
theorem qqf_ (n:Nat){rnd:Option Nat}(x0:List Int)(x2:Nat)(x3:NL)(x4:Int)(st:List Int×Int)(r:List Int)(h:qin_ n x0 x2 x3 x4 st=some r):qti_ rnd x0 x2 x3 x4 st r:=
 CG.iter (b:=qp_ P 61 [false,false,true,false,true,true,true]) (by kernel_rfl) (body:=qcy_ n x0 x2 x3 x4) (S:=qgj_ x0 x2 x3 x4) (X:=qey_ x0 x2 x3 x4)
  (fun s s' h=>qms_ n x0 x2 x3 x4 s (.inl s') h)
  (fun s r h=>qms_ n x0 x2 x3 x4 s (.inr r) h)
  (fun r=>by intro hx; cases hx) h
def qev_ (n:Nat)(a0:NL)(a1:Int):Option (NL):=
 if (((a0).l.length:Nat):Int)=0 then
  some nl0
 else
  if 0≤(((a0).l.length:Nat):Int) then
   if ((((a0).l.length:Nat):Int)).toNat*8≤140737488355328 then
    (qin_ n [a1] (((((a0).l.length:Nat):Int)).toNat) a0 (((a0).l.length:Nat):Int) ((List.replicate ((((a0).l.length:Nat):Int)).toNat (0:Int)),0)).bind fun c4_=>
    if (((((a0).l.length:Nat):Int)).toNat)=c4_.length then
     if hc6:c4_.length≤140737488355328 then
      some (frzL c4_ hc6)
     else none
    else none
   else none
  else none
theorem qsa_ (n:Nat)(a0:NL)(a1:Int)(r:NL)(h:qev_ n a0 a1=some r):qvh_ a0 a1 r:=by
 unfold qev_ at h
 by_cases hc1:(((a0).l.length:Nat):Int)=0
 ·rw[if_pos hc1] at h
  obtain rfl:=oI h
  exact runF2 hm ⟨[4],[],1,1,[],true,[],[],[4]⟩ (zz 6 (xeT hc1) <|
   ee) (by kernel_rfl)
 ·rw[if_neg hc1] at h
  obtain⟨hc2,h⟩:=gd h
  obtain⟨hc3,h⟩:=gd h
  obtain⟨c4_,hc4,h⟩:=oB h
  obtain⟨hc5,h⟩:=gd h
  obtain⟨hc6,h⟩:=gdD h
  obtain rfl:=oI h
  have k0_:Gv P (.func 61) (qoz_ a0 a1) (qo0_ a0 a1) (Value.slice (some ⟨Nat.add (2*cod c4_+1) 64,0,some 1⟩) (((((a0).l.length:Nat):Int)).toNat) (Nat.add big (((((a0).l.length:Nat):Int)).toNat))) (qj6_ a0 a1 (frzL c4_ hc6)):=runF2 hm ⟨[4],[],1,1,[(1,Nat.add (2*cod c4_+1) 64)],true,[],[],[]⟩ (zz 6 (xeF hc1) <|
  yy 11 (.mk ((((a0).l.length:Nat):Int)).toNat (iv (List.replicate ((((a0).l.length:Nat):Int)).toNat (0:Int)))) <|
  ww (p:=natOf (i6 (((a0).l.length:Nat):Int))=some ((((a0).l.length:Nat):Int)).toNat) (qeu_ hc2) <|
  ww (p:=natOf (i6 (((a0).l.length:Nat):Int))=some ((((a0).l.length:Nat):Int)).toNat) (qeu_ hc2) <|
  ww (p:=fits ((((a0).l.length:Nat):Int)).toNat 8=true) (fits_ok hc3 (by omega)) <|
  ww (p:=isZ8 [(i6 (0:Int))]=false) (rfl) <|
  ww (p:=reps [(i6 (0:Int))] ((((a0).l.length:Nat):Int)).toNat=(iv (List.replicate ((((a0).l.length:Nat):Int)).toNat (0:Int)))) (qz5_ _) <|
  ww (qqf_ n (rnd:=none) [a1] (((((a0).l.length:Nat):Int)).toNat) a0 (((a0).l.length:Nat):Int) ((List.replicate ((((a0).l.length:Nat):Int)).toNat (0:Int)),0) c4_ hc4) <|
  ww (qco_ (List.replicate ((((a0).l.length:Nat):Int)).toNat (0:Int)) 3) <|
  ll 19 ⟨(kW [1,5,14,15,16] [(0,0,false),(1,1,true)] 2 1),(qey_ [a1] (((((a0).l.length:Nat):Int)).toNat) a0 (((a0).l.length:Nat):Int) c4_).1,(qey_ [a1] (((((a0).l.length:Nat):Int)).toNat) a0 (((a0).l.length:Nat):Int) c4_).2⟩ <|
  ww (qon_ ql_ q2_ c4_) <|
  ee) (by kernel_rfl)
  have k1_:=gvLen (fn:=fun m_=>(Value.slice (some ⟨Nat.add (2*cod c4_+1) 64,0,some 1⟩) m_ (Nat.add big m_))) hc5 k0_
  exact k1_

def qwa_ (a0 a1 a2 a3 a4 a5:Int)(a6:NL)(a7 a8:Int)(r:NL):Value:=match r with
 | o0=>(Value.agg #[(i6 a0),(i6 a1),(i6 a2),(i6 a3),(i6 a4),(i6 a5),(nlV o0),(Value.int .u64 a7)])
def qwb_ (a0 a1 a2 a3 a4 a5:Int)(a6:NL)(a7 a8:Int)(r:NL):AH:=match r with
 | o0=>⟨sB [(1,(cB [(i6 a0),(i6 a1),(i6 a2),(i6 a3),(i6 a4),(i6 a5),(nlV o0),(Value.int .u64 a7)] 46))],2,1⟩
abbrev G_treemovedq2 (a0 a1 a2 a3 a4 a5:Int)(a6:NL)(a7 a8:Int)(r:NL):Prop:=Gv P (.func 49) [(Value.agg #[(i6 a0),(i6 a1),(i6 a2),(i6 a3),(i6 a4),(i6 a5),(nlV a6),(Value.int .u64 a7)]),(Value.func (.func 48) #[] #[(pN 0 0)])] ⟨sB [(0,(cB [(i6 a8)] 3))],1,1⟩ (qwa_ a0 a1 a2 a3 a4 a5 a6 a7 a8 r) (qwb_ a0 a1 a2 a3 a4 a5 a6 a7 a8 r)
abbrev C_treemovedq2 (a0 a1 a2 a3 a4 a5:Int)(a6:NL)(a7 a8:Int)(r:NL)(ins outs:BL):CallA:=⟨1,ins,qwa_ a0 a1 a2 a3 a4 a5 a6 a7 a8 r,qwb_ a0 a1 a2 a3 a4 a5 a6 a7 a8 r,outs⟩
def qnq_ (n:Nat)(a0 a1 a2 a3 a4 a5:Int)(a6:NL)(a7 a8:Int):Option (NL):=
 (qev_ n a6 a8).bind fun c1_=>
 some c1_
theorem qys_ (n:Nat)(a0 a1 a2 a3 a4 a5:Int)(a6:NL)(a7 a8:Int)(r:NL)(h:qnq_ n a0 a1 a2 a3 a4 a5 a6 a7 a8=some r):G_treemovedq2 a0 a1 a2 a3 a4 a5 a6 a7 a8 r:=by
 unfold qnq_ at h
 obtain⟨c1_,hc1,h⟩:=oB h
 obtain rfl:=oI h
 exact runF2 hm (kW [4] [(1,2,false)] 2 1) (yy 7 (.call (qvi_ a6 a8 c1_ [(0,0,false)] [])) <|
  ww (qsa_ n a6 a8 c1_ hc1) <|
  ee) (by kernel_rfl)

def q0a_ (a0:W8)(a1:Int)(a2:W8)(r:(Int) ⊕ (List R8)):Value:=match r with
 | .inl o0=>(Value.tuple #[(Value.slice none 0 0),(i6 o0)])
 | .inr o0=>(Value.tuple #[(sN 0 0 (o0).length (Nat.add big 8)),(i6 (0:Int))])
def q0b_ (a0:W8)(a1:Int)(a2:W8)(r:(Int) ⊕ (List R8)):AH:=match r with
 | .inl o0=>⟨sB [],0,0⟩
 | .inr o0=>⟨sB [(0,(cB (rows rw_iiiiiiLu o0) 46))],1,0⟩
abbrev G_treePutq1 (a0:W8)(a1:Int)(a2:W8)(r:(Int) ⊕ (List R8)):Prop:=Gv P (.func 26) [(wlV a0),(i6 a1),(wlV a2)] ⟨sB [],0,0⟩ (q0a_ a0 a1 a2 r) (q0b_ a0 a1 a2 r)
abbrev q0c_ (a0:W8)(a1:Int)(a2:W8)(r:(Int) ⊕ (List R8))(ins outs:BL):CallA:=⟨0,ins,q0a_ a0 a1 a2 r,q0b_ a0 a1 a2 r,outs⟩
def qnr_ (x0 x1:Int)(x3:W8)(x4:Int)(st:List R8×Int):XSt:=match st with
 | (x2,x5)=>(sT 115 [(12,(Value.func (.func 47) #[] #[(pN 0 0),(pN 1 0)])),(14,(sN 2 0 (x2).length (Nat.add big 8))),(101,(wlV x3)),(102,(i6 x4)),(103,(i6 x5))],[],⟨sB [(0,(cB [(i6 x0)] 3)),(1,(cB [(i6 x1)] 3)),(2,(cB (rows rw_iiiiiiLu x2) 46))],3,0⟩)
def qkn_ (x0 x1:Int)(x3:W8)(x4:Int)(r:List R8):Ex×XSt:=match r with
 | z0=>(.exit 4,(sT 115 [(14,(sN 0 0 (z0).length (Nat.add big 8)))],[],⟨sB [(0,(cB (rows rw_iiiiiiLu z0) 46))],1,0⟩))
abbrev Q_treePutq1_3 (rnd:Option Nat)(x0 x1:Int)(x3:W8)(x4:Int)(st:List R8×Int)(c:Ex×XSt):Prop:=CG P rnd (fnN P 26) 0 (qp_ P 26 [false,false,true,false,true,true,true,true,true,true,true,true,true,true,true,true]) (qnr_ x0 x1 x3 x4 st) c
abbrev U_treePutq1_3 (rd:Option Nat)(x0 x1:Int)(x3:W8)(x4:Int)(st:List R8×Int)(r:List R8):Prop:=CG P rd (fnN P 26) 0 (qp_ P 26 [false,true,false,true,true,true,true,true,true,true,true,true,true,true,true]) (qnr_ x0 x1 x3 x4 st) (qkn_ x0 x1 x3 x4 r)
def qha_ (n:Nat)(x0 x1:Int)(x3:W8)(x4:Int)(st:List R8×Int):Option ((List R8×Int) ⊕ (List R8)):=match st with
 | (x2,x5)=>
  if x5<x4 then
   if 0≤x5∧x5<(((x3).l.length:Nat):Int) then
    ((some (((x3).l).getD (x5).toNat (0,0,0,0,0,0,nl0,0)))).bind fun y3_=>
    (qiy_ n (y3_.1) (y3_.2.1) (y3_.2.2.1) (y3_.2.2.2.1) (y3_.2.2.2.2.1) (y3_.2.2.2.2.2.1) (y3_.2.2.2.2.2.2.1) (y3_.2.2.2.2.2.2.2) x0 x1).bind fun y4_=>
    if ((x2).length+1)*80≤140737488355328 then
     some (.inl ((x2 ++ [((y3_.1),(y3_.2.1),(y3_.2.2.1),(y3_.2.2.2.1),(y3_.2.2.2.2.1),(y3_.2.2.2.2.2.1),y4_,(y3_.2.2.2.2.2.2.2))]),(w64 (x5+1))))
    else none
   else none
  else
   some (.inr x2)
def qrg_ (n:Nat)(x0 x1:Int)(x3:W8)(x4:Int)(st:List R8×Int):Option (List R8):=iterM (qha_ n x0 x1 x3 x4) n st
theorem qwc_ (n:Nat){rnd:Option Nat}(x0 x1:Int)(x3:W8)(x4:Int)(st:List R8×Int)(o:(List R8×Int) ⊕ (List R8))(h:qha_ n x0 x1 x3 x4 st=some o):Q_treePutq1_3 rnd x0 x1 x3 x4 st (Sum.elim (fun s=>(.normal,qnr_ x0 x1 x3 x4 s)) (fun r=>qkn_ x0 x1 x3 x4 r) o):=by
 obtain⟨x2,x5⟩:=st
 unfold qha_ at h
 dsimp only at h
 by_cases hy1:x5<x4
 ·rw[if_pos hy1] at h
  obtain⟨hy2,h⟩:=gd h
  obtain⟨y3_,hy3,h⟩:=oB h
  obtain⟨y4_,hy4,h⟩:=oB h
  obtain⟨hy5,h⟩:=gd h
  obtain rfl:=oI h
  exact runC2 hm (kW [12,14,101,102,103] [(0,0,false),(1,1,false),(2,6,true)] 3 0) (zz 1 (xdT hy1) <|
   zz 7 (xk1 (x3).num (x3).off (x3).cap hy2) <|
   zz 8 (lk2 hy3 (qj_ hy2)) <|
   yy 14 (.call (qv9_ (y3_.1) (y3_.2.1) (y3_.2.2.1) (y3_.2.2.2.1) (y3_.2.2.2.2.1) (y3_.2.2.2.2.2.1) (y3_.2.2.2.2.2.2.1) (y3_.2.2.2.2.2.2.2) x0 x1 y4_ (iD 2) [(4,2,false)])) <|
   ww (qrf_ n (y3_.1) (y3_.2.1) (y3_.2.2.1) (y3_.2.2.2.1) (y3_.2.2.2.2.1) (y3_.2.2.2.2.2.1) (y3_.2.2.2.2.2.2.1) (y3_.2.2.2.2.2.2.2) x0 x1 y4_ hy4) <|
   yy 16 (.app ⟨none,rows rw_iiiiiiLu x2,(rows rw_iiiiiiLu (x2 ++ [((y3_.1),(y3_.2.1),(y3_.2.2.1),(y3_.2.2.2.1),(y3_.2.2.2.2.1),(y3_.2.2.2.2.2.1),y4_,(y3_.2.2.2.2.2.2.2))])),((x2 ++ [((y3_.1),(y3_.2.1),(y3_.2.2.1),(y3_.2.2.2.1),(y3_.2.2.2.2.1),(y3_.2.2.2.2.2.1),y4_,(y3_.2.2.2.2.2.2.2))])).length,false⟩) <|
   ww (p:=0<1) ((by decide)) <|
   ww (p:=rdT (layT (rows rw_iiiiiiLu x2)) (Nat.mul (x2).length 8) 0=some (rows rw_iiiiiiLu x2)) (qkk_ rwf_iiiiiiLu _ _ rfl) <|
   ww (p:=fits (Nat.add (x2).length 1) 80=true) (fits_ok hy5 (by have:=hy5; show (_:Nat)+_≤_; omega)) <|
   ww (p:=qm_ [(i6 (y3_.1)),(i6 (y3_.2.1)),(i6 (y3_.2.2.1)),(i6 (y3_.2.2.2.1)),(i6 (y3_.2.2.2.2.1)),(i6 (y3_.2.2.2.2.2.1)),(nlV y4_),(Value.int .u64 (y3_.2.2.2.2.2.2.2))]=true) (rfl) <|
   ww (p:=qm_ (rows rw_iiiiiiLu x2)=true) (qc6_ rwf_iiiiiiLu _) <|
   ww (p:=rows rw_iiiiiiLu x2 ++ [(i6 (y3_.1)),(i6 (y3_.2.1)),(i6 (y3_.2.2.1)),(i6 (y3_.2.2.2.1)),(i6 (y3_.2.2.2.2.1)),(i6 (y3_.2.2.2.2.2.1)),(nlV y4_),(Value.int .u64 (y3_.2.2.2.2.2.2.2))]=(rows rw_iiiiiiLu (x2 ++ [((y3_.1),(y3_.2.1),(y3_.2.2.1),(y3_.2.2.2.1),(y3_.2.2.2.2.1),(y3_.2.2.2.2.2.1),y4_,(y3_.2.2.2.2.2.2.2))]))) (qij_ rw_iiiiiiLu x2 [((y3_.1),(y3_.2.1),(y3_.2.2.1),(y3_.2.2.2.1),(y3_.2.2.2.2.1),(y3_.2.2.2.2.2.1),y4_,(y3_.2.2.2.2.2.2.2))]) <|
   ww (p:=Nat.add (x2).length 1=((x2 ++ [((y3_.1),(y3_.2.1),(y3_.2.2.1),(y3_.2.2.2.1),(y3_.2.2.2.2.1),(y3_.2.2.2.2.2.1),y4_,(y3_.2.2.2.2.2.2.2))])).length) (by simp) <|
   ww (qb_ rwf_iiiiiiLu (x2 ++ [((y3_.1),(y3_.2.1),(y3_.2.2.1),(y3_.2.2.2.1),(y3_.2.2.2.2.1),(y3_.2.2.2.2.2.1),y4_,(y3_.2.2.2.2.2.2.2))]) 46) <|
   ee) (by kernel_rfl)
 ·rw[if_neg hy1] at h
  obtain rfl:=oI h
  exact runC2 hm (kW [14] [(0,2,true)] 1 0) (zz 1 (xdF hy1) <|
   ww (qb_ rwf_iiiiiiLu x2 46) <|
   ee) (by kernel_rfl)
theorem qyt_ (n:Nat){rnd:Option Nat}(x0 x1:Int)(x3:W8)(x4:Int)(st:List R8×Int)(r:List R8)(h:qrg_ n x0 x1 x3 x4 st=some r):U_treePutq1_3 rnd x0 x1 x3 x4 st r:=
 CG.iter (b:=qp_ P 26 [false,false,true,false,true,true,true,true,true,true,true,true,true,true,true,true]) (by kernel_rfl) (body:=qha_ n x0 x1 x3 x4) (S:=qnr_ x0 x1 x3 x4) (X:=qkn_ x0 x1 x3 x4)
  (fun s s' h=>qwc_ n x0 x1 x3 x4 s (.inl s') h)
  (fun s r h=>qwc_ n x0 x1 x3 x4 s (.inr r) h)
  (fun r=>by intro hx; cases hx) h
def qns_ (x0:W8)(x1 x2 x3:Int)(x5:W8)(x6:Int)(st:List R8×Int):XSt:=match st with
 | (x4,x7)=>(sT 115 [(0,(wlV x0)),(10,(pN 0 0)),(12,(Value.func (.func 47) #[] #[(pN 0 0),(pN 1 0)])),(13,(Value.func (.func 48) #[] #[(pN 2 0)])),(14,(sN 3 0 (x4).length (Nat.add big 8))),(86,(wlV x5)),(87,(i6 x6)),(88,(i6 x7))],[],⟨sB [(0,(cB [(i6 x1)] 3)),(1,(cB [(i6 x2)] 3)),(2,(cB [(i6 x3)] 3)),(3,(cB (rows rw_iiiiiiLu x4) 46))],4,0⟩)
def qko_ (x0:W8)(x1 x2 x3:Int)(x5:W8)(x6:Int)(r:List R8):Ex×XSt:=match r with
 | z0=>(.exit 2,(sT 115 [(0,(wlV x0)),(10,(pN 0 0)),(12,(Value.func (.func 47) #[] #[(pN 0 0),(pN 1 0)])),(14,(sN 2 0 (z0).length (Nat.add big 8)))],[],⟨sB [(0,(cB [(i6 x1)] 3)),(1,(cB [(i6 x2)] 3)),(2,(cB (rows rw_iiiiiiLu z0) 46))],3,0⟩))
abbrev Q_treePutq1_2 (rnd:Option Nat)(x0:W8)(x1 x2 x3:Int)(x5:W8)(x6:Int)(st:List R8×Int)(c:Ex×XSt):Prop:=CG P rnd (fnN P 26) 0 (qp_ P 26 [false,false,true,false,true,true,true,true,true,true,true,true,true,true,true]) (qns_ x0 x1 x2 x3 x5 x6 st) c
abbrev U_treePutq1_2 (rd:Option Nat)(x0:W8)(x1 x2 x3:Int)(x5:W8)(x6:Int)(st:List R8×Int)(r:List R8):Prop:=CG P rd (fnN P 26) 0 (qp_ P 26 [false,true,false,true,true,true,true,true,true,true,true,true,true,true]) (qns_ x0 x1 x2 x3 x5 x6 st) (qko_ x0 x1 x2 x3 x5 x6 r)
def qhb_ (n:Nat)(x0:W8)(x1 x2 x3:Int)(x5:W8)(x6:Int)(st:List R8×Int):Option ((List R8×Int) ⊕ (List R8)):=match st with
 | (x4,x7)=>
  if x7<x6 then
   if 0≤x7∧x7<(((x5).l.length:Nat):Int) then
    ((some (((x5).l).getD (x7).toNat (0,0,0,0,0,0,nl0,0)))).bind fun y3_=>
    (qnq_ n (y3_.1) (y3_.2.1) (y3_.2.2.1) (y3_.2.2.2.1) (y3_.2.2.2.2.1) (y3_.2.2.2.2.2.1) (y3_.2.2.2.2.2.2.1) (y3_.2.2.2.2.2.2.2) x3).bind fun y4_=>
    if ((x4).length+1)*80≤140737488355328 then
     some (.inl ((x4 ++ [((y3_.1),(y3_.2.1),(y3_.2.2.1),(y3_.2.2.2.1),(y3_.2.2.2.2.1),(y3_.2.2.2.2.2.1),y4_,(y3_.2.2.2.2.2.2.2))]),(w64 (x7+1))))
    else none
   else none
  else
   some (.inr x4)
def qrh_ (n:Nat)(x0:W8)(x1 x2 x3:Int)(x5:W8)(x6:Int)(st:List R8×Int):Option (List R8):=iterM (qhb_ n x0 x1 x2 x3 x5 x6) n st
theorem qwd_ (n:Nat){rnd:Option Nat}(x0:W8)(x1 x2 x3:Int)(x5:W8)(x6:Int)(st:List R8×Int)(o:(List R8×Int) ⊕ (List R8))(h:qhb_ n x0 x1 x2 x3 x5 x6 st=some o):Q_treePutq1_2 rnd x0 x1 x2 x3 x5 x6 st (Sum.elim (fun s=>(.normal,qns_ x0 x1 x2 x3 x5 x6 s)) (fun r=>qko_ x0 x1 x2 x3 x5 x6 r) o):=by
 obtain⟨x4,x7⟩:=st
 unfold qhb_ at h
 dsimp only at h
 by_cases hy1:x7<x6
 ·rw[if_pos hy1] at h
  obtain⟨hy2,h⟩:=gd h
  obtain⟨y3_,hy3,h⟩:=oB h
  obtain⟨y4_,hy4,h⟩:=oB h
  obtain⟨hy5,h⟩:=gd h
  obtain rfl:=oI h
  exact runC2 hm (kW [0,10,12,13,14,86,87,88] [(0,0,false),(1,1,false),(2,2,false),(3,7,true)] 4 0) (zz 1 (xdT hy1) <|
   zz 7 (xk1 (x5).num (x5).off (x5).cap hy2) <|
   zz 8 (lk2 hy3 (qj_ hy2)) <|
   yy 14 (.call (C_treemovedq2 (y3_.1) (y3_.2.1) (y3_.2.2.1) (y3_.2.2.2.1) (y3_.2.2.2.2.1) (y3_.2.2.2.2.2.1) (y3_.2.2.2.2.2.2.1) (y3_.2.2.2.2.2.2.2) x3 y4_ [(0,2,false)] [(5,1,false)])) <|
   ww (qys_ n (y3_.1) (y3_.2.1) (y3_.2.2.1) (y3_.2.2.2.1) (y3_.2.2.2.2.1) (y3_.2.2.2.2.2.1) (y3_.2.2.2.2.2.2.1) (y3_.2.2.2.2.2.2.2) x3 y4_ hy4) <|
   yy 16 (.app ⟨none,rows rw_iiiiiiLu x4,(rows rw_iiiiiiLu (x4 ++ [((y3_.1),(y3_.2.1),(y3_.2.2.1),(y3_.2.2.2.1),(y3_.2.2.2.2.1),(y3_.2.2.2.2.2.1),y4_,(y3_.2.2.2.2.2.2.2))])),((x4 ++ [((y3_.1),(y3_.2.1),(y3_.2.2.1),(y3_.2.2.2.1),(y3_.2.2.2.2.1),(y3_.2.2.2.2.2.1),y4_,(y3_.2.2.2.2.2.2.2))])).length,false⟩) <|
   ww (p:=0<1) ((by decide)) <|
   ww (p:=rdT (layT (rows rw_iiiiiiLu x4)) (Nat.mul (x4).length 8) 0=some (rows rw_iiiiiiLu x4)) (qkk_ rwf_iiiiiiLu _ _ rfl) <|
   ww (p:=fits (Nat.add (x4).length 1) 80=true) (fits_ok hy5 (by have:=hy5; show (_:Nat)+_≤_; omega)) <|
   ww (p:=qm_ [(i6 (y3_.1)),(i6 (y3_.2.1)),(i6 (y3_.2.2.1)),(i6 (y3_.2.2.2.1)),(i6 (y3_.2.2.2.2.1)),(i6 (y3_.2.2.2.2.2.1)),(nlV y4_),(Value.int .u64 (y3_.2.2.2.2.2.2.2))]=true) (rfl) <|
   ww (p:=qm_ (rows rw_iiiiiiLu x4)=true) (qc6_ rwf_iiiiiiLu _) <|
   ww (p:=rows rw_iiiiiiLu x4 ++ [(i6 (y3_.1)),(i6 (y3_.2.1)),(i6 (y3_.2.2.1)),(i6 (y3_.2.2.2.1)),(i6 (y3_.2.2.2.2.1)),(i6 (y3_.2.2.2.2.2.1)),(nlV y4_),(Value.int .u64 (y3_.2.2.2.2.2.2.2))]=(rows rw_iiiiiiLu (x4 ++ [((y3_.1),(y3_.2.1),(y3_.2.2.1),(y3_.2.2.2.1),(y3_.2.2.2.2.1),(y3_.2.2.2.2.2.1),y4_,(y3_.2.2.2.2.2.2.2))]))) (qij_ rw_iiiiiiLu x4 [((y3_.1),(y3_.2.1),(y3_.2.2.1),(y3_.2.2.2.1),(y3_.2.2.2.2.1),(y3_.2.2.2.2.2.1),y4_,(y3_.2.2.2.2.2.2.2))]) <|
   ww (p:=Nat.add (x4).length 1=((x4 ++ [((y3_.1),(y3_.2.1),(y3_.2.2.1),(y3_.2.2.2.1),(y3_.2.2.2.2.1),(y3_.2.2.2.2.2.1),y4_,(y3_.2.2.2.2.2.2.2))])).length) (by simp) <|
   ww (qb_ rwf_iiiiiiLu (x4 ++ [((y3_.1),(y3_.2.1),(y3_.2.2.1),(y3_.2.2.2.1),(y3_.2.2.2.2.1),(y3_.2.2.2.2.2.1),y4_,(y3_.2.2.2.2.2.2.2))]) 46) <|
   ee) (by kernel_rfl)
 ·rw[if_neg hy1] at h
  obtain rfl:=oI h
  exact runC2 hm (kW [0,10,12,14] [(0,0,false),(1,1,false),(2,3,true)] 3 0) (zz 1 (xdF hy1) <|
   ww (qb_ rwf_iiiiiiLu x4 46) <|
   ee) (by kernel_rfl)
theorem qyu_ (n:Nat){rnd:Option Nat}(x0:W8)(x1 x2 x3:Int)(x5:W8)(x6:Int)(st:List R8×Int)(r:List R8)(h:qrh_ n x0 x1 x2 x3 x5 x6 st=some r):U_treePutq1_2 rnd x0 x1 x2 x3 x5 x6 st r:=
 CG.iter (b:=qp_ P 26 [false,false,true,false,true,true,true,true,true,true,true,true,true,true,true]) (by kernel_rfl) (body:=qhb_ n x0 x1 x2 x3 x5 x6) (S:=qns_ x0 x1 x2 x3 x5 x6) (X:=qko_ x0 x1 x2 x3 x5 x6)
  (fun s s' h=>qwd_ n x0 x1 x2 x3 x5 x6 s (.inl s') h)
  (fun s r h=>qwd_ n x0 x1 x2 x3 x5 x6 s (.inr r) h)
  (fun r=>by intro hx; cases hx) h
def qnt_ (x0 x1:W8)(x2 x3 x4:Int)(x6:W8)(x7:Int)(st:List R8×Int):XSt:=match st with
 | (x5,x8)=>(sT 115 [(0,(wlV x0)),(2,(wlV x1)),(10,(pN 0 0)),(12,(Value.func (.func 47) #[] #[(pN 0 0),(pN 1 0)])),(13,(Value.func (.func 48) #[] #[(pN 2 0)])),(14,(sN 3 0 (x5).length (Nat.add big 8))),(73,(wlV x6)),(74,(i6 x7)),(75,(i6 x8))],[],⟨sB [(0,(cB [(i6 x2)] 3)),(1,(cB [(i6 x3)] 3)),(2,(cB [(i6 x4)] 3)),(3,(cB (rows rw_iiiiiiLu x5) 46))],4,0⟩)
def qkp_ (x0 x1:W8)(x2 x3 x4:Int)(x6:W8)(x7:Int)(r:List R8):Ex×XSt:=match r with
 | z0=>(.exit 0,(sT 115 [(0,(wlV x0)),(2,(wlV x1)),(10,(pN 0 0)),(12,(Value.func (.func 47) #[] #[(pN 0 0),(pN 1 0)])),(13,(Value.func (.func 48) #[] #[(pN 2 0)])),(14,(sN 3 0 (z0).length (Nat.add big 8)))],[],⟨sB [(0,(cB [(i6 x2)] 3)),(1,(cB [(i6 x3)] 3)),(2,(cB [(i6 x4)] 3)),(3,(cB (rows rw_iiiiiiLu z0) 46))],4,0⟩))
abbrev Q_treePutq1_1 (rnd:Option Nat)(x0 x1:W8)(x2 x3 x4:Int)(x6:W8)(x7:Int)(st:List R8×Int)(c:Ex×XSt):Prop:=CG P rnd (fnN P 26) 0 (qp_ P 26 [false,false,true,false,true,true,true,true,true,true,true,true,true,true]) (qnt_ x0 x1 x2 x3 x4 x6 x7 st) c
abbrev U_treePutq1_1 (rd:Option Nat)(x0 x1:W8)(x2 x3 x4:Int)(x6:W8)(x7:Int)(st:List R8×Int)(r:List R8):Prop:=CG P rd (fnN P 26) 0 (qp_ P 26 [false,true,false,true,true,true,true,true,true,true,true,true,true]) (qnt_ x0 x1 x2 x3 x4 x6 x7 st) (qkp_ x0 x1 x2 x3 x4 x6 x7 r)
def qhc_ (n:Nat)(x0 x1:W8)(x2 x3 x4:Int)(x6:W8)(x7:Int)(st:List R8×Int):Option ((List R8×Int) ⊕ (List R8)):=match st with
 | (x5,x8)=>
  if x8<x7 then
   if 0≤x8∧x8<(((x6).l.length:Nat):Int) then
    ((some (((x6).l).getD (x8).toNat (0,0,0,0,0,0,nl0,0)))).bind fun y3_=>
    (qiy_ n (y3_.1) (y3_.2.1) (y3_.2.2.1) (y3_.2.2.2.1) (y3_.2.2.2.2.1) (y3_.2.2.2.2.2.1) (y3_.2.2.2.2.2.2.1) (y3_.2.2.2.2.2.2.2) x2 x3).bind fun y4_=>
    if ((x5).length+1)*80≤140737488355328 then
     some (.inl ((x5 ++ [((y3_.1),(y3_.2.1),(y3_.2.2.1),(y3_.2.2.2.1),(y3_.2.2.2.2.1),(y3_.2.2.2.2.2.1),y4_,(y3_.2.2.2.2.2.2.2))]),(w64 (x8+1))))
    else none
   else none
  else
   some (.inr x5)
def qri_ (n:Nat)(x0 x1:W8)(x2 x3 x4:Int)(x6:W8)(x7:Int)(st:List R8×Int):Option (List R8):=iterM (qhc_ n x0 x1 x2 x3 x4 x6 x7) n st
theorem qwe_ (n:Nat){rnd:Option Nat}(x0 x1:W8)(x2 x3 x4:Int)(x6:W8)(x7:Int)(st:List R8×Int)(o:(List R8×Int) ⊕ (List R8))(h:qhc_ n x0 x1 x2 x3 x4 x6 x7 st=some o):Q_treePutq1_1 rnd x0 x1 x2 x3 x4 x6 x7 st (Sum.elim (fun s=>(.normal,qnt_ x0 x1 x2 x3 x4 x6 x7 s)) (fun r=>qkp_ x0 x1 x2 x3 x4 x6 x7 r) o):=by
 obtain⟨x5,x8⟩:=st
 unfold qhc_ at h
 dsimp only at h
 by_cases hy1:x8<x7
 ·rw[if_pos hy1] at h
  obtain⟨hy2,h⟩:=gd h
  obtain⟨y3_,hy3,h⟩:=oB h
  obtain⟨y4_,hy4,h⟩:=oB h
  obtain⟨hy5,h⟩:=gd h
  obtain rfl:=oI h
  exact runC2 hm (kW [0,2,10,12,13,14,73,74,75] [(0,0,false),(1,1,false),(2,2,false),(3,7,true)] 4 0) (zz 1 (xdT hy1) <|
   zz 7 (xk1 (x6).num (x6).off (x6).cap hy2) <|
   zz 8 (lk2 hy3 (qj_ hy2)) <|
   yy 14 (.call (qv9_ (y3_.1) (y3_.2.1) (y3_.2.2.1) (y3_.2.2.2.1) (y3_.2.2.2.2.1) (y3_.2.2.2.2.2.1) (y3_.2.2.2.2.2.2.1) (y3_.2.2.2.2.2.2.2) x2 x3 y4_ (iD 2) [(5,2,false)])) <|
   ww (qrf_ n (y3_.1) (y3_.2.1) (y3_.2.2.1) (y3_.2.2.2.1) (y3_.2.2.2.2.1) (y3_.2.2.2.2.2.1) (y3_.2.2.2.2.2.2.1) (y3_.2.2.2.2.2.2.2) x2 x3 y4_ hy4) <|
   yy 16 (.app ⟨none,rows rw_iiiiiiLu x5,(rows rw_iiiiiiLu (x5 ++ [((y3_.1),(y3_.2.1),(y3_.2.2.1),(y3_.2.2.2.1),(y3_.2.2.2.2.1),(y3_.2.2.2.2.2.1),y4_,(y3_.2.2.2.2.2.2.2))])),((x5 ++ [((y3_.1),(y3_.2.1),(y3_.2.2.1),(y3_.2.2.2.1),(y3_.2.2.2.2.1),(y3_.2.2.2.2.2.1),y4_,(y3_.2.2.2.2.2.2.2))])).length,false⟩) <|
   ww (p:=0<1) ((by decide)) <|
   ww (p:=rdT (layT (rows rw_iiiiiiLu x5)) (Nat.mul (x5).length 8) 0=some (rows rw_iiiiiiLu x5)) (qkk_ rwf_iiiiiiLu _ _ rfl) <|
   ww (p:=fits (Nat.add (x5).length 1) 80=true) (fits_ok hy5 (by have:=hy5; show (_:Nat)+_≤_; omega)) <|
   ww (p:=qm_ [(i6 (y3_.1)),(i6 (y3_.2.1)),(i6 (y3_.2.2.1)),(i6 (y3_.2.2.2.1)),(i6 (y3_.2.2.2.2.1)),(i6 (y3_.2.2.2.2.2.1)),(nlV y4_),(Value.int .u64 (y3_.2.2.2.2.2.2.2))]=true) (rfl) <|
   ww (p:=qm_ (rows rw_iiiiiiLu x5)=true) (qc6_ rwf_iiiiiiLu _) <|
   ww (p:=rows rw_iiiiiiLu x5 ++ [(i6 (y3_.1)),(i6 (y3_.2.1)),(i6 (y3_.2.2.1)),(i6 (y3_.2.2.2.1)),(i6 (y3_.2.2.2.2.1)),(i6 (y3_.2.2.2.2.2.1)),(nlV y4_),(Value.int .u64 (y3_.2.2.2.2.2.2.2))]=(rows rw_iiiiiiLu (x5 ++ [((y3_.1),(y3_.2.1),(y3_.2.2.1),(y3_.2.2.2.1),(y3_.2.2.2.2.1),(y3_.2.2.2.2.2.1),y4_,(y3_.2.2.2.2.2.2.2))]))) (qij_ rw_iiiiiiLu x5 [((y3_.1),(y3_.2.1),(y3_.2.2.1),(y3_.2.2.2.1),(y3_.2.2.2.2.1),(y3_.2.2.2.2.2.1),y4_,(y3_.2.2.2.2.2.2.2))]) <|
   ww (p:=Nat.add (x5).length 1=((x5 ++ [((y3_.1),(y3_.2.1),(y3_.2.2.1),(y3_.2.2.2.1),(y3_.2.2.2.2.1),(y3_.2.2.2.2.2.1),y4_,(y3_.2.2.2.2.2.2.2))])).length) (by simp) <|
   ww (qb_ rwf_iiiiiiLu (x5 ++ [((y3_.1),(y3_.2.1),(y3_.2.2.1),(y3_.2.2.2.1),(y3_.2.2.2.2.1),(y3_.2.2.2.2.2.1),y4_,(y3_.2.2.2.2.2.2.2))]) 46) <|
   ee) (by kernel_rfl)
 ·rw[if_neg hy1] at h
  obtain rfl:=oI h
  exact runC2 hm (kW [0,2,10,12,13,14] [(0,0,false),(1,1,false),(2,2,false),(3,3,true)] 4 0) (zz 1 (xdF hy1) <|
   ww (qb_ rwf_iiiiiiLu x5 46) <|
   ee) (by kernel_rfl)
theorem qyv_ (n:Nat){rnd:Option Nat}(x0 x1:W8)(x2 x3 x4:Int)(x6:W8)(x7:Int)(st:List R8×Int)(r:List R8)(h:qri_ n x0 x1 x2 x3 x4 x6 x7 st=some r):U_treePutq1_1 rnd x0 x1 x2 x3 x4 x6 x7 st r:=
 CG.iter (b:=qp_ P 26 [false,false,true,false,true,true,true,true,true,true,true,true,true,true]) (by kernel_rfl) (body:=qhc_ n x0 x1 x2 x3 x4 x6 x7) (S:=qnt_ x0 x1 x2 x3 x4 x6 x7) (X:=qkp_ x0 x1 x2 x3 x4 x6 x7)
  (fun s s' h=>qwe_ n x0 x1 x2 x3 x4 x6 x7 s (.inl s') h)
  (fun s r h=>qwe_ n x0 x1 x2 x3 x4 x6 x7 s (.inr r) h)
  (fun r=>by intro hx; cases hx) h
def qmg_ (n:Nat)(a0:W8)(a1:Int)(a2:W8):Option ((Int) ⊕ (List R8)):=
 (q7_ n a0).bind fun c1_=>
 if c1_=0 then
  (q7_ n a2).bind fun c3_=>
  if c3_=0 then
   if a1<0 then
    some (.inl 2)
   else
    if a1 ≥ (((a0).l.length:Nat):Int) then
     some (.inl 2)
    else
     if 0≤a1∧a1<(((a0).l.length:Nat):Int) then
      ((some (((a0).l).getD (a1).toNat (0,0,0,0,0,0,nl0,0)))).bind fun c8_=>
      if 0≤(0:Int)∧(0:Int)<(((a2).l.length:Nat):Int) then
       ((some (((a2).l).getD ((0:Int)).toNat (0,0,0,0,0,0,nl0,0)))).bind fun c10_=>
       (qix_ n (c8_.1) (c8_.2.1) (c8_.2.2.1) (c8_.2.2.2.1) (c8_.2.2.2.2.1) (c8_.2.2.2.2.2.1) (c8_.2.2.2.2.2.2.1) (c8_.2.2.2.2.2.2.2) (c10_.1) (c10_.2.1) (c10_.2.2.1) (c10_.2.2.2.1) (c10_.2.2.2.2.1) (c10_.2.2.2.2.2.1) (c10_.2.2.2.2.2.2.1) (c10_.2.2.2.2.2.2.2)).bind fun c11_=>
       if c11_=true then
        (qil_ n a0 a1).bind fun c13_=>
        ((some (w64 ((((a2).l.length:Nat):Int)-(w64 (c13_-a1)))))).bind fun c14_=>
        ((some (w64 ((((a0).l.length:Nat):Int)+c14_)))).bind fun c15_=>
        if c15_ > 524288 then
         some (.inl 3)
        else
         if 0≤c15_ then
          if (c15_).toNat*80≤140737488355328 then
           if 0≤a1 then
            if hc20:0≤(a1).toNat∧(a1).toNat≤(a0).l.length then
             (qri_ n a0 a2 c13_ c14_ a1 (wlSub rwf_iiiiiiLu a0 0 (a1).toNat hc20) ((((wlSub rwf_iiiiiiLu a0 0 (a1).toNat hc20)).l.length:Nat):Int) ([],0)).bind fun c21_=>
             (qrh_ n a0 c13_ c14_ a1 a2 (((a2).l.length:Nat):Int) (c21_,0)).bind fun c22_=>
             if 0≤c13_ then
              if hc24:(c13_).toNat≤(a0).l.length∧(a0).l.length≤(a0).l.length then
               (qrg_ n c13_ c14_ (wlSub rwf_iiiiiiLu a0 (c13_).toNat (a0).l.length hc24) ((((wlSub rwf_iiiiiiLu a0 (c13_).toNat (a0).l.length hc24)).l.length:Nat):Int) (c22_,0)).bind fun c25_=>
               some (.inr c25_)
              else none
             else none
            else none
           else none
          else none
         else none
       else
        some (.inl 2)
      else none
     else none
  else
   some (.inl c3_)
 else
  some (.inl c1_)
theorem qul_ (n:Nat)(a0:W8)(a1:Int)(a2:W8)(r:(Int) ⊕ (List R8))(h:qmg_ n a0 a1 a2=some r):G_treePutq1 a0 a1 a2 r:=by
 unfold qmg_ at h
 obtain⟨c1_,hc1,h⟩:=oB h
 have k0:=fun {A L l} (k:PL A L l)=>yy 7 (.call (qft_ a0 c1_ [] [])) <|
  ww (qc8_ n a0 c1_ hc1) <|
  k
 by_cases hc2:c1_=0
 ·rw[if_pos hc2] at h
  obtain⟨c3_,hc3,h⟩:=oB h
  have k2:=fun {A L l} (k:PL A L l)=>zz 11 (xnF hc2) <|
   yy 16 (.call (qft_ a2 c3_ [] [])) <|
   ww (qc8_ n a2 c3_ hc3) <|
   k
  by_cases hc4:c3_=0
  ·rw[if_pos hc4] at h
   have k5:=fun {A L l} (k:PL A L l)=>zz 20 (xnF hc4) <|
    k
   by_cases hc5:a1<0
   ·rw[if_pos hc5] at h
    obtain rfl:=oI h
    exact runF2 hm (kW [6,7] [] 0 0) (k0 <|
     k2 <|
     k5 <|
     zz 25 (xdT hc5) <|
     ee) (by kernel_rfl)
   ·rw[if_neg hc5] at h
    have k6:=fun {A L l} (k:PL A L l)=>zz 25 (xdF hc5) <|
     k
    by_cases hc6:a1 ≥ (((a0).l.length:Nat):Int)
    ·rw[if_pos hc6] at h
     obtain rfl:=oI h
     exact runF2 hm (kW [6,7] [] 0 0) (k0 <|
      k2 <|
      k5 <|
      k6 <|
      zz 30 (xdT hc6) <|
      ee) (by kernel_rfl)
    ·rw[if_neg hc6] at h
     obtain⟨hc7,h⟩:=gd h
     obtain⟨c8_,hc8,h⟩:=oB h
     obtain⟨hc9,h⟩:=gd h
     obtain⟨c10_,hc10,h⟩:=oB h
     obtain⟨c11_,hc11,h⟩:=oB h
     have k7:=fun {A L l} (k:PL A L l)=>zz 30 (xdF hc6) <|
      zz 35 (xk1 (a0).num (a0).off (a0).cap hc7) <|
      zz 36 (lk2 hc8 (qj_ hc7)) <|
      zz 38 (xk1 (a2).num (a2).off (a2).cap hc9) <|
      zz 39 (lk2 hc10 (qj_ hc9)) <|
      yy 40 (.call (qv6_ (c8_.1) (c8_.2.1) (c8_.2.2.1) (c8_.2.2.2.1) (c8_.2.2.2.2.1) (c8_.2.2.2.2.2.1) (c8_.2.2.2.2.2.2.1) (c8_.2.2.2.2.2.2.2) (c10_.1) (c10_.2.1) (c10_.2.2.1) (c10_.2.2.2.1) (c10_.2.2.2.2.1) (c10_.2.2.2.2.2.1) (c10_.2.2.2.2.2.2.1) (c10_.2.2.2.2.2.2.2) c11_ [] [])) <|
      ww (qre_ n (c8_.1) (c8_.2.1) (c8_.2.2.1) (c8_.2.2.2.1) (c8_.2.2.2.2.1) (c8_.2.2.2.2.2.1) (c8_.2.2.2.2.2.2.1) (c8_.2.2.2.2.2.2.2) (c10_.1) (c10_.2.1) (c10_.2.2.1) (c10_.2.2.2.1) (c10_.2.2.2.2.1) (c10_.2.2.2.2.2.1) (c10_.2.2.2.2.2.2.1) (c10_.2.2.2.2.2.2.2) c11_ hc11) <|
      k
     by_cases hc12:c11_=true
     ·rw[if_pos hc12] at h
      obtain⟨c13_,hc13,h⟩:=oB h
      obtain⟨c14_,hc14,h⟩:=oB h
      obtain⟨c15_,hc15,h⟩:=oB h
      have k14:=fun {A L l} (k:PL A L l)=>yy 41 (vf) <|
       ww (p:=(Value.bool (!c11_))=(Value.bool false)) (vBn hc12) <|
       yy 47 (.call (qyl_ a0 a1 c13_ [] [])) <|
       ww (qsy_ n a0 a1 c13_ hc13) <|
       zz 56 (xnm hc14) <|
       zz 64 (xnm hc15) <|
       k
      by_cases hc16:c15_ > 524288
      ·rw[if_pos hc16] at h
       obtain rfl:=oI h
       exact runF2 hm (kW [6,7] [] 0 0) (k0 <|
        k2 <|
        k5 <|
        k6 <|
        k7 <|
        k14 <|
        zz 65 (xdT hc16) <|
        ee) (by kernel_rfl)
      ·rw[if_neg hc16] at h
       obtain⟨hc17,h⟩:=gd h
       obtain⟨hc18,h⟩:=gd h
       obtain⟨hc19,h⟩:=gd h
       obtain⟨hc20,h⟩:=gdD h
       replace h:=oB h
       obtain⟨c21_,hc21,h⟩:=h
       replace h:=oB h
       obtain⟨c22_,hc22,h⟩:=h
       replace h:=gd h
       obtain⟨hc23,h⟩:=h
       replace h:=gdD h
       obtain⟨hc24,h⟩:=h
       replace h:=oB h
       obtain⟨c25_,hc25,h⟩:=h
       obtain rfl:=oI h
       exact runF2 hm (kW [6,7] [(0,0,true)] 1 0) (k0 <|
        k2 <|
        k5 <|
        k6 <|
        k7 <|
        k14 <|
        zz 65 (xdF hc16) <|
        zz 77 (xnm hc15) <|
        yy 78 (.mk (c15_).toNat []) <|
        ww (p:=natOf (i6 c15_)=some (c15_).toNat) (qeu_ hc17) <|
        ww (p:=fits (c15_).toNat 80=true) (fits_ok hc18 (by omega)) <|
        yy 84 (.pur (wlV (wlSub rwf_iiiiiiLu a0 0 (a1).toNat hc20))) <|
        ww (p:=qjt_ P 22 (wlV a0) none (some (i6 a1)) none Ax.h0=some ((wlV (wlSub rwf_iiiiiiLu a0 0 (a1).toNat hc20)),Ax.h0)) (slWL (e:=46) rwf_iiiiiiLu a0 (by kernel_rfl) (by kernel_rfl) rfl (qsu_ hc19) hc20) <|
        ww (qyv_ n (rnd:=none) a0 a2 c13_ c14_ a1 (wlSub rwf_iiiiiiLu a0 0 (a1).toNat hc20) ((((wlSub rwf_iiiiiiLu a0 0 (a1).toNat hc20)).l.length:Nat):Int) ([],0) c21_ hc21) <|
        ll 88 ⟨(kW [0,2,10,12,13,14,73,74,75] [(0,1,false),(1,2,false),(2,0,false),(3,3,false)] 4 0),(qkp_ a0 a2 c13_ c14_ a1 (wlSub rwf_iiiiiiLu a0 0 (a1).toNat hc20) ((((wlSub rwf_iiiiiiLu a0 0 (a1).toNat hc20)).l.length:Nat):Int) c21_).1,(qkp_ a0 a2 c13_ c14_ a1 (wlSub rwf_iiiiiiLu a0 0 (a1).toNat hc20) ((((wlSub rwf_iiiiiiLu a0 0 (a1).toNat hc20)).l.length:Nat):Int) c21_).2⟩ <|
        ww (qyu_ n (rnd:=none) a0 c13_ c14_ a1 a2 (((a2).l.length:Nat):Int) (c21_,0) c22_ hc22) <|
        ww (qb_ rwf_iiiiiiLu c21_ 46) <|
        ll 95 ⟨(kW [0,10,12,13,14,86,87,88] [(0,0,false),(1,1,false),(2,2,false),(3,3,true)] 4 0),(qko_ a0 c13_ c14_ a1 a2 (((a2).l.length:Nat):Int) c22_).1,(qko_ a0 c13_ c14_ a1 a2 (((a2).l.length:Nat):Int) c22_).2⟩ <|
        yy 100 (.pur (wlV (wlSub rwf_iiiiiiLu a0 (c13_).toNat (a0).l.length hc24))) <|
        ww (p:=qjt_ P 22 (wlV a0) (some (i6 c13_)) none none Ax.h0=some ((wlV (wlSub rwf_iiiiiiLu a0 (c13_).toNat (a0).l.length hc24)),Ax.h0)) (slWL (e:=46) rwf_iiiiiiLu a0 (by kernel_rfl) (by kernel_rfl) (qsu_ hc23) rfl hc24) <|
        ww (qyt_ n (rnd:=none) c13_ c14_ (wlSub rwf_iiiiiiLu a0 (c13_).toNat (a0).l.length hc24) ((((wlSub rwf_iiiiiiLu a0 (c13_).toNat (a0).l.length hc24)).l.length:Nat):Int) (c22_,0) c25_ hc25) <|
        ww (qb_ rwf_iiiiiiLu c22_ 46) <|
        ll 104 ⟨(kW [12,14,101,102,103] [(0,0,false),(1,1,false),(2,2,true)] 3 0),(qkn_ c13_ c14_ (wlSub rwf_iiiiiiLu a0 (c13_).toNat (a0).l.length hc24) ((((wlSub rwf_iiiiiiLu a0 (c13_).toNat (a0).l.length hc24)).l.length:Nat):Int) c25_).1,(qkn_ c13_ c14_ (wlSub rwf_iiiiiiLu a0 (c13_).toNat (a0).l.length hc24) ((((wlSub rwf_iiiiiiLu a0 (c13_).toNat (a0).l.length hc24)).l.length:Nat):Int) c25_).2⟩ <|
        ww (qb_ rwf_iiiiiiLu c25_ 46) <|
        ee) (by kernel_rfl)
     ·rw[if_neg hc12] at h
      obtain rfl:=oI h
      exact runF2 hm (kW [6,7] [] 0 0) (k0 <|
       k2 <|
       k5 <|
       k6 <|
       k7 <|
       yy 41 (vt) <|
       ww (p:=(Value.bool (!c11_))=(Value.bool true)) (vBn (Bool.eq_false_iff.2 hc12)) <|
       ee) (by kernel_rfl)
  ·rw[if_neg hc4] at h
   obtain rfl:=oI h
   exact runF2 hm (kW [6,7] [] 0 0) (k0 <|
    k2 <|
    zz 20 (xnT hc4) <|
    ee) (by kernel_rfl)
 ·rw[if_neg hc2] at h
  obtain rfl:=oI h
  exact runF2 hm (kW [6,7] [] 0 0) (k0 <|
   zz 11 (xnT hc2) <|
   ee) (by kernel_rfl)

def q0d_ (a0:W8)(a1:Int)(r:Bool):Value:=match r with
 | o0=>(bO o0)
def q0e_ (a0:W8)(a1:Int)(r:Bool):AH:=match r with
 | o0=>⟨sB [],0,0⟩
abbrev G_treehasq1 (a0:W8)(a1:Int)(r:Bool):Prop:=Gv P (.func 53) [(wlV a0),(i6 a1)] ⟨sB [],0,0⟩ (q0d_ a0 a1 r) (q0e_ a0 a1 r)
abbrev C_treehasq1 (a0:W8)(a1:Int)(r:Bool)(ins outs:BL):CallA:=⟨0,ins,q0d_ a0 a1 r,q0e_ a0 a1 r,outs⟩
def qmh_ (n:Nat)(a0:W8)(a1:Int):Option (Bool):=
 if a1 ≥ 0 then
  if a1<(((a0).l.length:Nat):Int) then
   (q7_ n a0).bind fun c3_=>
   if c3_=0 then
    some true
   else
    some false
  else
   some false
 else
  some false
theorem q1i_ (n:Nat)(a0:W8)(a1:Int)(r:Bool)(h:qmh_ n a0 a1=some r):G_treehasq1 a0 a1 r:=by
 unfold qmh_ at h
 by_cases hc1:a1 ≥ 0
 ·rw[if_pos hc1] at h
  have k0:=fun {A L l} (k:PL A L l)=>zz 4 (xdT hc1) <|
   k
  by_cases hc2:a1<(((a0).l.length:Nat):Int)
  ·rw[if_pos hc2] at h
   obtain⟨c3_,hc3,h⟩:=oB h
   have k1:=fun {A L l} (k:PL A L l)=>zz 9 (xdT hc2) <|
    yy 13 (.call (qft_ a0 c3_ [] [])) <|
    ww (qc8_ n a0 c3_ hc3) <|
    k
   by_cases hc4:c3_=0
   ·rw[if_pos hc4] at h
    obtain rfl:=oI h
    exact runF2 hm (kW [4] [] 0 0) (k0 <|
     k1 <|
     zz 14 (xeT hc4) <|
     ee) (by kernel_rfl)
   ·rw[if_neg hc4] at h
    obtain rfl:=oI h
    exact runF2 hm (kW [4] [] 0 0) (k0 <|
     k1 <|
     zz 14 (xeF hc4) <|
     ee) (by kernel_rfl)
  ·rw[if_neg hc2] at h
   obtain rfl:=oI h
   exact runF2 hm (kW [4] [] 0 0) (k0 <|
    zz 9 (xdF hc2) <|
    ee) (by kernel_rfl)
 ·rw[if_neg hc1] at h
  obtain rfl:=oI h
  exact runF2 hm (kW [4] [] 0 0) (zz 4 (xdF hc1) <|
   ee) (by kernel_rfl)

def q0f_ (a0:W8)(a1 r:Int):Value:=match r with
 | o0=>(i6 o0)
def q0g_ (a0:W8)(a1 r:Int):AH:=match r with
 | o0=>⟨sB [],0,0⟩
abbrev G_treeEndq1 (a0:W8)(a1 r:Int):Prop:=Gv P (.func 29) [(wlV a0),(i6 a1)] ⟨sB [],0,0⟩ (q0f_ a0 a1 r) (q0g_ a0 a1 r)
abbrev qvj_ (a0:W8)(a1 r:Int)(ins outs:BL):CallA:=⟨0,ins,q0f_ a0 a1 r,q0g_ a0 a1 r,outs⟩
def qho_ (n:Nat)(a0:W8)(a1:Int):Option (Int):=
 (qmh_ n a0 a1).bind fun c1_=>
 if c1_=true then
  (qil_ n a0 a1).bind fun c3_=>
  some c3_
 else
  some 0
theorem qpi_ (n:Nat)(a0:W8)(a1 r:Int)(h:qho_ n a0 a1=some r):G_treeEndq1 a0 a1 r:=by
 unfold qho_ at h
 obtain⟨c1_,hc1,h⟩:=oB h
 have k0:=fun {A L l} (k:PL A L l)=>yy 6 (.call (C_treehasq1 a0 a1 c1_ [] [])) <|
  ww (q1i_ n a0 a1 c1_ hc1) <|
  k
 by_cases hc2:c1_=true
 ·rw[if_pos hc2] at h
  obtain⟨c3_,hc3,h⟩:=oB h
  obtain rfl:=oI h
  exact runF2 hm (kW [4] [] 0 0) (k0 <|
   yy 7 (vf) <|
   ww (p:=(Value.bool (!c1_))=(Value.bool false)) (vBn hc2) <|
   yy 12 (.call (qyl_ a0 a1 c3_ [] [])) <|
   ww (qsy_ n a0 a1 c3_ hc3) <|
   ee) (by kernel_rfl)
 ·rw[if_neg hc2] at h
  obtain rfl:=oI h
  exact runF2 hm (kW [4] [] 0 0) (k0 <|
   yy 7 (vt) <|
   ww (p:=(Value.bool (!c1_))=(Value.bool true)) (vBn (Bool.eq_false_iff.2 hc2)) <|
   ee) (by kernel_rfl)

def qum_ (a0:W8)(a1 a2:Int)(r:Unit):Value:=match r with
 | _=>(Value.func (.func 52) #[] #[(pN 0 0),(pN 1 0),(pN 2 0)])
def qun_ (a0:W8)(a1 a2:Int)(r:Unit):AH:=match r with
 | _=>⟨sB [(0,(cB [(wlV a0)] 22)),(1,(cB [(i6 a1)] 3)),(2,(cB [(i6 a2)] 3))],3,0⟩
abbrev q1j_ (a0:W8)(a1 a2:Int)(r:Unit):Prop:=Gv P (.func 28) [(wlV a0),(i6 a1),(i6 a2)] ⟨sB [],0,0⟩ (qum_ a0 a1 a2 r) (qun_ a0 a1 a2 r)
abbrev qi8_ (a0:W8)(a1 a2:Int)(r:Unit)(ins outs:BL):CallA:=⟨0,ins,qum_ a0 a1 a2 r,qun_ a0 a1 a2 r,outs⟩
def qdx_ (n:Nat)(a0:W8)(a1 a2:Int):Option (Unit):=
 some ()
theorem qgs_ (n:Nat)(a0:W8)(a1 a2:Int)(r:Unit)(h:qdx_ n a0 a1 a2=some r):q1j_ a0 a1 a2 r:=by
 unfold qdx_ at h
 obtain rfl:=oI h
 exact runF2 hm (kW [6] (iD 3) 3 0) (ee) (by kernel_rfl)

def qp3_ (a0 a1 r:Int):Value:=match r with
 | o0=>(Value.int .u64 o0)
def qp4_ (a0 a1 r:Int):AH:=match r with
 | o0=>⟨sB [],0,0⟩
abbrev qwq_ (a0 a1 r:Int):Prop:=Gv P (.func 51) [(Value.int .u64 a0),(Value.int .u64 a1)] ⟨sB [],0,0⟩ (qp3_ a0 a1 r) (qp4_ a0 a1 r)
abbrev qwr_ (a0 a1 r:Int)(ins outs:BL):CallA:=⟨0,ins,qp3_ a0 a1 r,qp4_ a0 a1 r,outs⟩
def qic_ (n:Nat)(a0 a1:Int):Option (Int):=
 some (bOr .u64 a0 a1)
theorem qtj_ (n:Nat)(a0 a1 r:Int)(h:qic_ n a0 a1=some r):qwq_ a0 a1 r:=by
 unfold qic_ at h
 obtain rfl:=oI h
 exact runF2 hm (kW [4] [] 0 0) (ee) (by kernel_rfl)

def qg4_ (a0:Int)(a1:W8)(a2 a3 a4 r:Int):Value:=match r with
 | o0=>(bO true)
def qg5_ (a0:Int)(a1:W8)(a2 a3 a4 r:Int):AH:=match r with
 | o0=>⟨sB [(0,(some (rblk P 50 [false,true,false,true] .ready none [(4,(pN 2 0)),(5,(pN 3 0)),(8,(Value.func (.func 52) #[] #[(pN 4 0),(pN 5 0),(pN 6 0)]))] 1))),(1,(some (.marks true))),(2,(cB [(Value.int .u64 o0)] 41)),(3,(cB [(Value.func (.func 51) #[] #[])] 67)),(4,(cB [(wlV a1)] 22)),(5,(cB [(i6 a2)] 3)),(6,(cB [(i6 a3)] 3))],7,0⟩
abbrev ql3_ (a0:Int)(a1:W8)(a2 a3 a4 r:Int):Prop:=Gv P (.yield 0) [(Value.int .u64 a4)] ⟨sB [(0,(some (rblk P 50 [false,true,false,true] .ready none [(4,(pN 2 0)),(5,(pN 3 0)),(8,(Value.func (.func 52) #[] #[(pN 4 0),(pN 5 0),(pN 6 0)]))] 1))),(1,(some (.marks true))),(2,(cB [(Value.int .u64 a0)] 41)),(3,(cB [(Value.func (.func 51) #[] #[])] 67)),(4,(cB [(wlV a1)] 22)),(5,(cB [(i6 a2)] 3)),(6,(cB [(i6 a3)] 3))],7,7⟩ (qg4_ a0 a1 a2 a3 a4 r) (qg5_ a0 a1 a2 a3 a4 r)
abbrev ql4_ (a0:Int)(a1:W8)(a2 a3 a4 r:Int)(ins outs:BL):CallA:=⟨7,ins,qg4_ a0 a1 a2 a3 a4 r,qg5_ a0 a1 a2 a3 a4 r,outs⟩
def qc5_ (n:Nat)(a0:Int)(a1:W8)(a2 a3 a4:Int):Option (Int):=
 (qic_ n a0 a4).bind fun c1_=>
 some c1_
theorem qj7_ (n:Nat)(a0:Int)(a1:W8)(a2 a3 a4 r:Int)(h:qc5_ n a0 a1 a2 a3 a4=some r):ql3_ a0 a1 a2 a3 a4 r:=by
 unfold qc5_ at h
 obtain⟨c1_,hc1,h⟩:=oB h
 obtain rfl:=oI h
 exact runY2 hm (kW [] (iD 7) 7 0) (ee) (yy 4 (.call (qwr_ a0 a4 c1_ [] [])) <|
  ww (qtj_ n a0 a4 c1_ hc1) <|
  ee) (by kernel_rfl)

def qsz_ (a0:Int)(a1:W8)(a2 a3 r:Int):Value:=match r with
 | o0=>(Value.tuple #[])
def qs0_ (a0:Int)(a1:W8)(a2 a3 r:Int):AH:=match r with
 | o0=>⟨sB [(0,(some (rblk P 50 [false,true,false,true] .ready none [(4,(pN 2 0)),(5,(pN 3 0)),(8,(Value.func (.func 52) #[] #[(pN 4 0),(pN 5 0),(pN 6 0)]))] 1))),(1,(some (.marks true))),(2,(cB [(Value.int .u64 o0)] 41)),(3,(cB [(Value.func (.func 51) #[] #[])] 67)),(4,(cB [(wlV a1)] 22)),(5,(cB [(i6 a2)] 3)),(6,(cB [(i6 a3)] 3))],7,0⟩
abbrev qzj_ (a0:Int)(a1:W8)(a2 a3 r:Int):Prop:=Gv P (.func 52) [(Value.func (.yield 0) #[] #[]),(pN 4 0),(pN 5 0),(pN 6 0)] ⟨sB [(0,(some (rblk P 50 [false,true,false,true] .ready none [(4,(pN 2 0)),(5,(pN 3 0)),(8,(Value.func (.func 52) #[] #[(pN 4 0),(pN 5 0),(pN 6 0)]))] 1))),(1,(some (.marks true))),(2,(cB [(Value.int .u64 a0)] 41)),(3,(cB [(Value.func (.func 51) #[] #[])] 67)),(4,(cB [(wlV a1)] 22)),(5,(cB [(i6 a2)] 3)),(6,(cB [(i6 a3)] 3))],7,7⟩ (qsz_ a0 a1 a2 a3 r) (qs0_ a0 a1 a2 a3 r)
abbrev qzk_ (a0:Int)(a1:W8)(a2 a3 r:Int)(ins outs:BL):CallA:=⟨7,ins,qsz_ a0 a1 a2 a3 r,qs0_ a0 a1 a2 a3 r,outs⟩
def qid_ (x1:W8)(x2 x3:Int)(x4:W8)(x5:Int)(st:Int×Int):XSt:=match st with
 | (x0,x6)=>(sT 22 [(0,(Value.func (.yield 0) #[] #[])),(10,(wlV x4)),(11,(i6 x5)),(12,(i6 x6))],[],⟨sB [(0,(some (rblk P 50 [false,true,false,true] .ready none [(4,(pN 2 0)),(5,(pN 3 0)),(8,(Value.func (.func 52) #[] #[(pN 4 0),(pN 5 0),(pN 6 0)]))] 1))),(1,(some (.marks true))),(2,(cB [(Value.int .u64 x0)] 41)),(3,(cB [(Value.func (.func 51) #[] #[])] 67)),(4,(cB [(wlV x1)] 22)),(5,(cB [(i6 x2)] 3)),(6,(cB [(i6 x3)] 3))],7,0⟩)
def qgt_ (x1:W8)(x2 x3:Int)(x4:W8)(x5 r:Int):Ex×XSt:=match r with
 | z0=>(.exit 0,(sT 22 [],[],⟨sB [(0,(some (rblk P 50 [false,true,false,true] .ready none [(4,(pN 2 0)),(5,(pN 3 0)),(8,(Value.func (.func 52) #[] #[(pN 4 0),(pN 5 0),(pN 6 0)]))] 1))),(1,(some (.marks true))),(2,(cB [(Value.int .u64 z0)] 41)),(3,(cB [(Value.func (.func 51) #[] #[])] 67)),(4,(cB [(wlV x1)] 22)),(5,(cB [(i6 x2)] 3)),(6,(cB [(i6 x3)] 3))],7,0⟩))
abbrev qws_ (rnd:Option Nat)(x1:W8)(x2 x3:Int)(x4:W8)(x5:Int)(st:Int×Int)(c:Ex×XSt):Prop:=CG P rnd (fnN P 52) 7 (qp_ P 52 [false,false,true]) (qid_ x1 x2 x3 x4 x5 st) c
abbrev qwt_ (rd:Option Nat)(x1:W8)(x2 x3:Int)(x4:W8)(x5:Int)(st:Int×Int)(r:Int):Prop:=CG P rd (fnN P 52) 7 (qp_ P 52 [false,true]) (qid_ x1 x2 x3 x4 x5 st) (qgt_ x1 x2 x3 x4 x5 r)
def qed_ (n:Nat)(x1:W8)(x2 x3:Int)(x4:W8)(x5:Int)(st:Int×Int):Option ((Int×Int) ⊕ (Int)):=match st with
 | (x0,x6)=>
  if x6<x5 then
   if 0≤x6∧x6<(((x4).l.length:Nat):Int) then
    ((some (((x4).l).getD (x6).toNat (0,0,0,0,0,0,nl0,0)))).bind fun y3_=>
    (qc5_ n x0 x1 x2 x3 (y3_.2.2.2.2.2.2.2)).bind fun y4_=>
    some (.inl (y4_,(w64 (x6+1))))
   else none
  else
   some (.inr x0)
def qla_ (n:Nat)(x1:W8)(x2 x3:Int)(x4:W8)(x5:Int)(st:Int×Int):Option (Int):=iterM (qed_ n x1 x2 x3 x4 x5) n st
theorem qp5_ (n:Nat){rnd:Option Nat}(x1:W8)(x2 x3:Int)(x4:W8)(x5:Int)(st:Int×Int)(o:(Int×Int) ⊕ (Int))(h:qed_ n x1 x2 x3 x4 x5 st=some o):qws_ rnd x1 x2 x3 x4 x5 st (Sum.elim (fun s=>(.normal,qid_ x1 x2 x3 x4 x5 s)) (fun r=>qgt_ x1 x2 x3 x4 x5 r) o):=by
 obtain⟨x0,x6⟩:=st
 unfold qed_ at h
 dsimp only at h
 by_cases hy1:x6<x5
 ·rw[if_pos hy1] at h
  obtain⟨hy2,h⟩:=gd h
  obtain⟨y3_,hy3,h⟩:=oB h
  obtain⟨y4_,hy4,h⟩:=oB h
  obtain rfl:=oI h
  exact runC2 hm (kW [0,10,11,12] (iD 7) 7 0) (zz 1 (xdT hy1) <|
   zz 7 (xk1 (x4).num (x4).off (x4).cap hy2) <|
   zz 8 (lk2 hy3 (qj_ hy2)) <|
   yy 15 (.call (ql4_ x0 x1 x2 x3 (y3_.2.2.2.2.2.2.2) y4_ (iD 7) (iD 7))) <|
   ww (qj7_ n x0 x1 x2 x3 (y3_.2.2.2.2.2.2.2) y4_ hy4) <|
   ee) (by kernel_rfl)
 ·rw[if_neg hy1] at h
  obtain rfl:=oI h
  exact runC2 hm (kW [] (iD 7) 7 0) (zz 1 (xdF hy1) <|
   ee) (by kernel_rfl)
theorem qtk_ (n:Nat){rnd:Option Nat}(x1:W8)(x2 x3:Int)(x4:W8)(x5:Int)(st:Int×Int)(r:Int)(h:qla_ n x1 x2 x3 x4 x5 st=some r):qwt_ rnd x1 x2 x3 x4 x5 st r:=
 CG.iter (b:=qp_ P 52 [false,false,true]) (by kernel_rfl) (body:=qed_ n x1 x2 x3 x4 x5) (S:=qid_ x1 x2 x3 x4 x5) (X:=qgt_ x1 x2 x3 x4 x5)
  (fun s s' h=>qp5_ n x1 x2 x3 x4 x5 s (.inl s') h)
  (fun s r h=>qp5_ n x1 x2 x3 x4 x5 s (.inr r) h)
  (fun r=>by intro hx; cases hx) h
def qkd_ (n:Nat)(a0:Int)(a1:W8)(a2 a3:Int):Option (Int):=
 if 0≤a2 then
  if 0≤a3 then
   if hc3:(a2).toNat≤(a3).toNat∧(a3).toNat≤(a1).l.length then
    (qla_ n a1 a2 a3 (wlSub rwf_iiiiiiLu a1 (a2).toNat (a3).toNat hc3) ((((wlSub rwf_iiiiiiLu a1 (a2).toNat (a3).toNat hc3)).l.length:Nat):Int) (a0,0)).bind fun c4_=>
    some c4_
   else none
  else none
 else none
theorem qvk_ (n:Nat)(a0:Int)(a1:W8)(a2 a3 r:Int)(h:qkd_ n a0 a1 a2 a3=some r):qzj_ a0 a1 a2 a3 r:=by
 unfold qkd_ at h
 obtain⟨hc1,h⟩:=gd h
 obtain⟨hc2,h⟩:=gd h
 obtain⟨hc3,h⟩:=gdD h
 replace h:=oB h
 obtain⟨c4_,hc4,h⟩:=h
 obtain rfl:=oI h
 exact runF2 hm (kW [] (iD 7) 7 0) (yy 4 (.pur (wlV (wlSub rwf_iiiiiiLu a1 (a2).toNat (a3).toNat hc3))) <|
  ww (p:=qjt_ P 22 (wlV a1) (some (i6 a2)) (some (i6 a3)) none Ax.h0=some ((wlV (wlSub rwf_iiiiiiLu a1 (a2).toNat (a3).toNat hc3)),Ax.h0)) (slWL (e:=46) rwf_iiiiiiLu a1 (by kernel_rfl) (by kernel_rfl) (qsu_ hc1) (qsu_ hc2) hc3) <|
  ww (qtk_ n (rnd:=none) a1 a2 a3 (wlSub rwf_iiiiiiLu a1 (a2).toNat (a3).toNat hc3) ((((wlSub rwf_iiiiiiLu a1 (a2).toNat (a3).toNat hc3)).l.length:Nat):Int) (a0,0) c4_ hc4) <|
  ll 8 ⟨(kW [0,10,11,12] (iD 7) 7 0),(qgt_ a1 a2 a3 (wlSub rwf_iiiiiiLu a1 (a2).toNat (a3).toNat hc3) ((((wlSub rwf_iiiiiiLu a1 (a2).toNat (a3).toNat hc3)).l.length:Nat):Int) c4_).1,(qgt_ a1 a2 a3 (wlSub rwf_iiiiiiLu a1 (a2).toNat (a3).toNat hc3) ((((wlSub rwf_iiiiiiLu a1 (a2).toNat (a3).toNat hc3)).l.length:Nat):Int) c4_).2⟩ <|
  ee) (by kernel_rfl)

def qi9_ (a0:W8)(a1 a2 a3 r:Int):Value:=match r with
 | o0=>(Value.int .u64 o0)
def qja_ (a0:W8)(a1 a2 a3 r:Int):AH:=match r with
 | o0=>⟨sB [(0,(cB [(wlV a0)] 22)),(1,(cB [(i6 a1)] 3)),(2,(cB [(i6 a2)] 3)),(3,(some (.marks false)))],4,0⟩
abbrev qpj_ (a0:W8)(a1 a2 a3 r:Int):Prop:=Gv P (.func 50) [(Value.func (.func 52) #[] #[(pN 0 0),(pN 1 0),(pN 2 0)]),(Value.int .u64 a3),(Value.func (.func 51) #[] #[])] ⟨sB [(0,(cB [(wlV a0)] 22)),(1,(cB [(i6 a1)] 3)),(2,(cB [(i6 a2)] 3))],3,3⟩ (qi9_ a0 a1 a2 a3 r) (qja_ a0 a1 a2 a3 r)
abbrev qpk_ (a0:W8)(a1 a2 a3 r:Int)(ins outs:BL):CallA:=⟨3,ins,qi9_ a0 a1 a2 a3 r,qja_ a0 a1 a2 a3 r,outs⟩
def qeh_ (n:Nat)(a0:W8)(a1 a2 a3:Int):Option (Int):=
 (qkd_ n a3 a0 a1 a2).bind fun c1_=>
 some c1_
theorem qnl_ (n:Nat)(a0:W8)(a1 a2 a3 r:Int)(h:qeh_ n a0 a1 a2 a3=some r):qpj_ a0 a1 a2 a3 r:=by
 unfold qeh_ at h
 obtain⟨c1_,hc1,h⟩:=oB h
 obtain rfl:=oI h
 exact runF2 hm (kW [6] [(0,0,false),(1,1,false),(2,2,false),(3,5,false)] 4 0) (yy 8 (.rng (qzk_ a3 a0 a1 a2 c1_ [(0,6,false),(1,5,false),(2,3,false),(3,4,false),(4,0,false),(5,1,false),(6,2,false)] [(6,0,false),(5,1,false),(3,2,false),(4,3,false),(0,4,false),(1,5,false),(2,6,false)]) [4,5,8]) <|
  ww (qvk_ n a3 a0 a1 a2 c1_ hc1) <|
  ee) (by kernel_rfl)

def qrj_ (a0:W8)(a1 a2 r:Int):Value:=match r with
 | o0=>(Value.int .u64 o0)
def qrk_ (a0:W8)(a1 a2 r:Int):AH:=match r with
 | o0=>⟨sB [(0,(cB [(wlV a0)] 22)),(1,(cB [(i6 a1)] 3)),(2,(cB [(i6 a2)] 3))],3,0⟩
abbrev qyw_ (a0:W8)(a1 a2 r:Int):Prop:=Gv P (.func 27) [(Value.func (.func 52) #[] #[(pN 0 0),(pN 1 0),(pN 2 0)])] ⟨sB [(0,(cB [(wlV a0)] 22)),(1,(cB [(i6 a1)] 3)),(2,(cB [(i6 a2)] 3))],3,3⟩ (qrj_ a0 a1 a2 r) (qrk_ a0 a1 a2 r)
abbrev qhd_ (a0:W8)(a1 a2 r:Int)(ins outs:BL):CallA:=⟨3,ins,qrj_ a0 a1 a2 r,qrk_ a0 a1 a2 r,outs⟩
def qcc_ (n:Nat)(a0:W8)(a1 a2:Int):Option (Int):=
 (qeh_ n a0 a1 a2 0).bind fun c1_=>
 some c1_
theorem qfv_ (n:Nat)(a0:W8)(a1 a2 r:Int)(h:qcc_ n a0 a1 a2=some r):qyw_ a0 a1 a2 r:=by
 unfold qcc_ at h
 obtain⟨c1_,hc1,h⟩:=oB h
 obtain rfl:=oI h
 exact runF2 hm (kW [2] (iD 3) 3 0) (yy 4 (.call (qpk_ a0 a1 a2 0 c1_ (iD 3) (iD 3))) <|
  ww (qnl_ n a0 a1 a2 0 c1_ hc1) <|
  ee) (by kernel_rfl)

def qrl_ (a0:Int)(r:Bool):Value:=match r with
 | o0=>(bO o0)
def qrm_ (a0:Int)(r:Bool):AH:=match r with
 | o0=>⟨sB [],0,0⟩
abbrev qyx_ (a0:Int)(r:Bool):Prop:=Gv P (.func 38) [(i6 a0)] ⟨sB [],0,0⟩ (qrl_ a0 r) (qrm_ a0 r)
abbrev qez_ (a0:Int)(r:Bool)(ins outs:BL):CallA:=⟨0,ins,qrl_ a0 r,qrm_ a0 r,outs⟩
def qcd_ (n:Nat)(a0:Int):Option (Bool):=
 if a0 ≥ 0 then
  if a0<64 then
   some true
  else
   some false
 else
  some false
theorem qc9_ (n:Nat)(a0:Int)(r:Bool)(h:qcd_ n a0=some r):qyx_ a0 r:=by
 unfold qcd_ at h
 by_cases hc1:a0 ≥ 0
 ·rw[if_pos hc1] at h
  have k0:=fun {A L l} (k:PL A L l)=>zz 4 (xdT hc1) <|
   k
  by_cases hc2:a0<64
  ·rw[if_pos hc2] at h
   obtain rfl:=oI h
   exact runF2 hm (kW [2] [] 0 0) (k0 <|
    zz 7 (xdT hc2) <|
    ee) (by kernel_rfl)
  ·rw[if_neg hc2] at h
   obtain rfl:=oI h
   exact runF2 hm (kW [2] [] 0 0) (k0 <|
    zz 7 (xdF hc2) <|
    ee) (by kernel_rfl)
 ·rw[if_neg hc1] at h
  obtain rfl:=oI h
  exact runF2 hm (kW [2] [] 0 0) (zz 4 (xdF hc1) <|
   ee) (by kernel_rfl)

def quo_ (a0:W8)(a1 a2 a3 a4 a5 a6:Int)(r:Bool):Value:=match r with
 | o0=>(bO o0)
def qup_ (a0:W8)(a1 a2 a3 a4 a5 a6:Int)(r:Bool):AH:=match r with
 | o0=>⟨sB [],0,0⟩
abbrev q1k_ (a0:W8)(a1 a2 a3 a4 a5 a6:Int)(r:Bool):Prop:=Gv P (.func 9) [(wlV a0),(i6 a1),(Value.agg #[(i6 a2),(i6 a3),(i6 a4),(i6 a5),(i6 a6)])] ⟨sB [],0,0⟩ (quo_ a0 a1 a2 a3 a4 a5 a6 r) (qup_ a0 a1 a2 a3 a4 a5 a6 r)
abbrev qjb_ (a0:W8)(a1 a2 a3 a4 a5 a6:Int)(r:Bool)(ins outs:BL):CallA:=⟨0,ins,quo_ a0 a1 a2 a3 a4 a5 a6 r,qup_ a0 a1 a2 a3 a4 a5 a6 r,outs⟩
def qdy_ (n:Nat)(a0:W8)(a1 a2 a3 a4 a5 a6:Int):Option (Bool):=
 (qho_ n a0 a1).bind fun c1_=>
 if c1_=0 then
  some false
 else
  (qcd_ n a2).bind fun c3_=>
  if c3_=true then
   if a3 > a4 then
    some false
   else
    if 0≤a1∧a1<(((a0).l.length:Nat):Int) then
     ((some (((a0).l).getD (a1).toNat (0,0,0,0,0,0,nl0,0)))).bind fun c7_=>
     if a3<(c7_.2.2.1) then
      some false
     else
      if a4 > (c7_.2.2.2.2.1) then
       some false
      else
       (qdx_ n a0 0 a1).bind fun _=>
       (qcc_ n a0 0 a1).bind fun c11_=>
       (qdx_ n a0 c1_ (((a0).l.length:Nat):Int)).bind fun _=>
       (qcc_ n a0 c1_ (((a0).l.length:Nat):Int)).bind fun c13_=>
       if 0≤a2 then
        if (bAnd .u64 (shrV .u64 (bOr .u64 c11_ c13_) a2) (1:Int))=0 then
         some true
        else
         some false
       else none
    else none
  else
   some false
theorem qgu_ (n:Nat)(a0:W8)(a1 a2 a3 a4 a5 a6:Int)(r:Bool)(h:qdy_ n a0 a1 a2 a3 a4 a5 a6=some r):q1k_ a0 a1 a2 a3 a4 a5 a6 r:=by
 unfold qdy_ at h
 obtain⟨c1_,hc1,h⟩:=oB h
 have k0:=fun {A L l} (k:PL A L l)=>yy 6 (.call (qvj_ a0 a1 c1_ [] [])) <|
  ww (qpi_ n a0 a1 c1_ hc1) <|
  k
 by_cases hc2:c1_=0
 ·rw[if_pos hc2] at h
  obtain rfl:=oI h
  exact runF2 hm (kW [6] [] 0 0) (k0 <|
   zz 11 (xeT hc2) <|
   ee) (by kernel_rfl)
 ·rw[if_neg hc2] at h
  obtain⟨c3_,hc3,h⟩:=oB h
  have k2:=fun {A L l} (k:PL A L l)=>zz 11 (xeF hc2) <|
   yy 15 (.call (qez_ a2 c3_ [] [])) <|
   ww (qc9_ n a2 c3_ hc3) <|
   k
  by_cases hc4:c3_=true
  ·rw[if_pos hc4] at h
   have k5:=fun {A L l} (k:PL A L l)=>yy 16 (vf) <|
    ww (p:=(Value.bool (!c3_))=(Value.bool false)) (vBn hc4) <|
    k
   by_cases hc5:a3 > a4
   ·rw[if_pos hc5] at h
    obtain rfl:=oI h
    exact runF2 hm (kW [6] [] 0 0) (k0 <|
     k2 <|
     k5 <|
     zz 27 (xdT hc5) <|
     ee) (by kernel_rfl)
   ·rw[if_neg hc5] at h
    obtain⟨hc6,h⟩:=gd h
    obtain⟨c7_,hc7,h⟩:=oB h
    have k7:=fun {A L l} (k:PL A L l)=>zz 27 (xdF hc5) <|
     zz 34 (xk1 (a0).num (a0).off (a0).cap hc6) <|
     zz 35 (fk16 (a0).num (Nat.add (a0).off ((a1).toNat*8))) <|
     zz 36 (lk17 hc7 (qj_ hc6)) <|
     k
    by_cases hc8:a3<(c7_.2.2.1)
    ·rw[if_pos hc8] at h
     obtain rfl:=oI h
     exact runF2 hm (kW [6] [] 0 0) (k0 <|
      k2 <|
      k5 <|
      k7 <|
      zz 37 (xdT hc8) <|
      ee) (by kernel_rfl)
    ·rw[if_neg hc8] at h
     have k11:=fun {A L l} (k:PL A L l)=>zz 37 (xdF hc8) <|
      zz 45 (xk1 (a0).num (a0).off (a0).cap hc6) <|
      zz 46 (fk18 (a0).num (Nat.add (a0).off ((a1).toNat*8))) <|
      zz 47 (lk19 hc7 (qj_ hc6)) <|
      k
     by_cases hc9:a4 > (c7_.2.2.2.2.1)
     ·rw[if_pos hc9] at h
      obtain rfl:=oI h
      exact runF2 hm (kW [6] [] 0 0) (k0 <|
       k2 <|
       k5 <|
       k7 <|
       k11 <|
       zz 48 (xdT hc9) <|
       ee) (by kernel_rfl)
     ·rw[if_neg hc9] at h
      obtain⟨_,hc10,h⟩:=oB h
      obtain⟨c11_,hc11,h⟩:=oB h
      obtain⟨_,hc12,h⟩:=oB h
      obtain⟨c13_,hc13,h⟩:=oB h
      obtain⟨hc14,h⟩:=gd h
      have k15:=fun {A L l} (k:PL A L l)=>zz 48 (xdF hc9) <|
       yy 54 (.call (qi8_ a0 0 a1 () [] [(1,0,false),(2,1,false),(3,2,false)])) <|
       ww (qgs_ n a0 0 a1 () hc10) <|
       yy 55 (.call (qhd_ a0 0 a1 c11_ [(0,1,false),(1,2,false),(2,3,false)] [(1,0,false),(2,1,false),(3,2,false)])) <|
       ww (qfv_ n a0 0 a1 c11_ hc11) <|
       yy 60 (.call (qi8_ a0 c1_ (((a0).l.length:Nat):Int) () [] [(4,0,false),(5,1,false),(6,2,false)])) <|
       ww (qgs_ n a0 c1_ (((a0).l.length:Nat):Int) () hc12) <|
       yy 61 (.call (qhd_ a0 c1_ (((a0).l.length:Nat):Int) c13_ [(0,4,false),(1,5,false),(2,6,false)] [(4,0,false),(5,1,false),(6,2,false)])) <|
       ww (qfv_ n a0 c1_ (((a0).l.length:Nat):Int) c13_ hc13) <|
       yy 68 (.pur (Value.int .u64 (shrV .u64 (bOr .u64 c11_ c13_) a2))) <|
       ww (p:=opBin P .shr 41 (.tmp 60) (.tmp 62) (Value.int .u64 (bOr .u64 c11_ c13_)) (i6 a2) Ax.h0=some ((Value.int .u64 (shrV .u64 (bOr .u64 c11_ c13_) a2)),Ax.h0)) (qz8_ hc14) <|
       k
      by_cases hc15:(bAnd .u64 (shrV .u64 (bOr .u64 c11_ c13_) a2) (1:Int))=0
      ·rw[if_pos hc15] at h
       obtain rfl:=oI h
       exact runF2 hm (kW [6] [] 0 0) (k0 <|
        k2 <|
        k5 <|
        k7 <|
        k11 <|
        k15 <|
        zz 70 (xeT hc15) <|
        ee) (by kernel_rfl)
      ·rw[if_neg hc15] at h
       obtain rfl:=oI h
       exact runF2 hm (kW [6] [] 0 0) (k0 <|
        k2 <|
        k5 <|
        k7 <|
        k11 <|
        k15 <|
        zz 70 (xeF hc15) <|
        ee) (by kernel_rfl)
  ·rw[if_neg hc4] at h
   obtain rfl:=oI h
   exact runF2 hm (kW [6] [] 0 0) (k0 <|
    k2 <|
    yy 16 (vt) <|
    ww (p:=(Value.bool (!c3_))=(Value.bool true)) (vBn (Bool.eq_false_iff.2 hc4)) <|
    ee) (by kernel_rfl)

def qs1_ (a0:W8):List Value:=[(wlV a0)]
def qs2_ (a0:W8):AH:=⟨sB [],0,0⟩
def qs3_ (a0:W8)(r:NL):Value:=match r with
 | o0=>(nlV o0)
def qn5_ (a0:W8)(r:NL):AH:=match r with
 | o0=>⟨sB [],0,0⟩
abbrev qzl_ (a0:W8)(r:NL):Prop:=Gv P (.func 30) (qs1_ a0) (qs2_ a0) (qs3_ a0 r) (qn5_ a0 r)
abbrev qke_ (a0:W8)(r:NL)(ins outs:BL):CallA:=⟨0,ins,qs3_ a0 r,qn5_ a0 r,outs⟩
def qie_ (x1:Nat)(x2:Int)(x3:W8)(x4:Int)(x5:NL)(x6:Int)(st:List Int×Int):XSt:=match st with
 | (x0,x7)=>(sT 37 [(3,(sN 0 0 x1 x1)),(4,(i6 x2)),(16,(wlV x3)),(17,(i6 x4)),(18,(i6 x2)),(24,(nlV x5)),(25,(i6 x6)),(26,(i6 x7))],[],⟨sB [(0,(cB (iv x0) 3))],1,0⟩)
def qgv_ (x1:Nat)(x2:Int)(x3:W8)(x4:Int)(x5:NL)(x6:Int)(r:List Int):Ex×XSt:=match r with
 | z0=>(.exit 2,(sT 37 [(3,(sN 0 0 x1 x1)),(16,(wlV x3)),(17,(i6 x4)),(18,(i6 x2))],[],⟨sB [(0,(cB (iv z0) 3))],1,0⟩))
abbrev qwu_ (rnd:Option Nat)(x1:Nat)(x2:Int)(x3:W8)(x4:Int)(x5:NL)(x6:Int)(st:List Int×Int)(c:Ex×XSt):Prop:=CG P rnd (fnN P 30) 0 (qp_ P 30 [false,false,true,true,false,false,true,true,false,false,true,false,true,true,true,true]) (qie_ x1 x2 x3 x4 x5 x6 st) c
abbrev qwv_ (rd:Option Nat)(x1:Nat)(x2:Int)(x3:W8)(x4:Int)(x5:NL)(x6:Int)(st:List Int×Int)(r:List Int):Prop:=CG P rd (fnN P 30) 0 (qp_ P 30 [false,true,true,false,false,true,true,false,false,true,false,true,true,true,true]) (qie_ x1 x2 x3 x4 x5 x6 st) (qgv_ x1 x2 x3 x4 x5 x6 r)
def qdl_ (n x1:Nat)(x2:Int)(x3:W8)(x4:Int)(x5:NL)(x6:Int)(st:List Int×Int):Option ((List Int×Int) ⊕ (List Int)):=match st with
 | (x0,x7)=>
  if x7<x6 then
   if 0≤x7∧x7<(((x5).l.length:Nat):Int) then
    if (x7).toNat<((x5).l).length then
     ((some (((x5).l).getD (x7).toNat 0))).bind fun y4_=>
     if 0≤y4_∧y4_<((x1:Nat):Int) then
      if (y4_).toNat<(x0).length then
       some (.inl (((x0).set (y4_).toNat x2),(w64 (x7+1))))
      else none
     else none
    else none
   else none
  else
   some (.inr x0)
def qif_ (n x1:Nat)(x2:Int)(x3:W8)(x4:Int)(x5:NL)(x6:Int)(st:List Int×Int):Option (List Int):=iterM (qdl_ n x1 x2 x3 x4 x5 x6) n st
theorem qp6_ (n:Nat){rnd:Option Nat}(x1:Nat)(x2:Int)(x3:W8)(x4:Int)(x5:NL)(x6:Int)(st:List Int×Int)(o:(List Int×Int) ⊕ (List Int))(h:qdl_ n x1 x2 x3 x4 x5 x6 st=some o):qwu_ rnd x1 x2 x3 x4 x5 x6 st (Sum.elim (fun s=>(.normal,qie_ x1 x2 x3 x4 x5 x6 s)) (fun r=>qgv_ x1 x2 x3 x4 x5 x6 r) o):=by
 obtain⟨x0,x7⟩:=st
 unfold qdl_ at h
 dsimp only at h
 by_cases hy1:x7<x6
 ·rw[if_pos hy1] at h
  obtain⟨hy2,h⟩:=gd h
  obtain⟨hy3,h⟩:=gd h
  obtain⟨y4_,hy4,h⟩:=oB h
  obtain⟨hy5,h⟩:=gd h
  obtain⟨hy6,h⟩:=gd h
  obtain rfl:=oI h
  exact runC2 hm (kW [3,4,16,17,18,24,25,26] [(0,0,true)] 1 0) (zz 1 (xdT hy1) <|
   zz 7 (xk8 (Nat.add (x5).num 64) (x5).off (x5).cap hy2) <|
   zz 8 (nk9 hy4 hy3) <|
   zz 13 (xk13 0 x1 hy5) <|
   z2 14 (stI (x2) hy6) <|
   ww (qco_ ((x0).set (y4_).toNat x2) 3) <|
   ee) (by kernel_rfl)
 ·rw[if_neg hy1] at h
  obtain rfl:=oI h
  exact runC2 hm (kW [3,16,17,18] [(0,0,true)] 1 0) (zz 1 (xdF hy1) <|
   ww (qco_ x0 3) <|
   ee) (by kernel_rfl)
theorem qtl_ (n:Nat){rnd:Option Nat}(x1:Nat)(x2:Int)(x3:W8)(x4:Int)(x5:NL)(x6:Int)(st:List Int×Int)(r:List Int)(h:qif_ n x1 x2 x3 x4 x5 x6 st=some r):qwv_ rnd x1 x2 x3 x4 x5 x6 st r:=
 CG.iter (b:=qp_ P 30 [false,false,true,true,false,false,true,true,false,false,true,false,true,true,true,true]) (by kernel_rfl) (body:=qdl_ n x1 x2 x3 x4 x5 x6) (S:=qie_ x1 x2 x3 x4 x5 x6) (X:=qgv_ x1 x2 x3 x4 x5 x6)
  (fun s s' h=>qp6_ n x1 x2 x3 x4 x5 x6 s (.inl s') h)
  (fun s r h=>qp6_ n x1 x2 x3 x4 x5 x6 s (.inr r) h)
  (fun r=>by intro hx; cases hx) h
def qig_ (x1:Nat)(x2:W8)(x3:Int)(st:List Int×Int):XSt:=match st with
 | (x0,x4)=>(sT 37 [(3,(sN 0 0 x1 x1)),(16,(wlV x2)),(17,(i6 x3)),(18,(i6 x4))],[],⟨sB [(0,(cB (iv x0) 3))],1,0⟩)
def qgw_ (x1:Nat)(x2:W8)(x3:Int)(r:List Int):Ex×XSt:=match r with
 | z0=>(.exit 0,(sT 37 [(3,(sN 0 0 x1 x1))],[],⟨sB [(0,(cB (iv z0) 3))],1,0⟩))
abbrev qww_ (rnd:Option Nat)(x1:Nat)(x2:W8)(x3:Int)(st:List Int×Int)(c:Ex×XSt):Prop:=CG P rnd (fnN P 30) 0 (qp_ P 30 [false,false,true,false,true,true,true,true]) (qig_ x1 x2 x3 st) c
abbrev qwx_ (rd:Option Nat)(x1:Nat)(x2:W8)(x3:Int)(st:List Int×Int)(r:List Int):Prop:=CG P rd (fnN P 30) 0 (qp_ P 30 [false,true,false,true,true,true,true]) (qig_ x1 x2 x3 st) (qgw_ x1 x2 x3 r)
def qdm_ (n x1:Nat)(x2:W8)(x3:Int)(st:List Int×Int):Option ((List Int×Int) ⊕ (List Int)):=match st with
 | (x0,x4)=>
  if x4<x3 then
   if 0≤x4∧x4<(((x2).l.length:Nat):Int) then
    ((some (((x2).l).getD (x4).toNat (0,0,0,0,0,0,nl0,0)))).bind fun y3_=>
    (qif_ n x1 x4 x2 x3 (y3_.2.2.2.2.2.2.1) ((((y3_.2.2.2.2.2.2.1)).l.length:Nat):Int) (x0,0)).bind fun y4_=>
    some (.inl (y4_,(w64 (x4+1))))
   else none
  else
   some (.inr x0)
def qih_ (n x1:Nat)(x2:W8)(x3:Int)(st:List Int×Int):Option (List Int):=iterM (qdm_ n x1 x2 x3) n st
theorem qp7_ (n:Nat){rnd:Option Nat}(x1:Nat)(x2:W8)(x3:Int)(st:List Int×Int)(o:(List Int×Int) ⊕ (List Int))(h:qdm_ n x1 x2 x3 st=some o):qww_ rnd x1 x2 x3 st (Sum.elim (fun s=>(.normal,qig_ x1 x2 x3 s)) (fun r=>qgw_ x1 x2 x3 r) o):=by
 obtain⟨x0,x4⟩:=st
 unfold qdm_ at h
 dsimp only at h
 by_cases hy1:x4<x3
 ·rw[if_pos hy1] at h
  obtain⟨hy2,h⟩:=gd h
  obtain⟨y3_,hy3,h⟩:=oB h
  obtain⟨y4_,hy4,h⟩:=oB h
  obtain rfl:=oI h
  exact runC2 hm (kW [3,16,17,18] [(0,0,true)] 1 0) (zz 1 (xdT hy1) <|
   zz 8 (xk1 (x2).num (x2).off (x2).cap hy2) <|
   zz 9 (lk2 hy3 (qj_ hy2)) <|
   ww (qtl_ n (rnd:=rnd) x1 x4 x2 x3 (y3_.2.2.2.2.2.2.1) ((((y3_.2.2.2.2.2.2.1)).l.length:Nat):Int) (x0,0) y4_ hy4) <|
   ww (qco_ x0 3) <|
   ll 19 ⟨(kW [3,4,16,17,18,24,25,26] [(0,0,true)] 1 0),(qgv_ x1 x4 x2 x3 (y3_.2.2.2.2.2.2.1) ((((y3_.2.2.2.2.2.2.1)).l.length:Nat):Int) y4_).1,(qgv_ x1 x4 x2 x3 (y3_.2.2.2.2.2.2.1) ((((y3_.2.2.2.2.2.2.1)).l.length:Nat):Int) y4_).2⟩ <|
   ww (qco_ y4_ 3) <|
   ee) (by kernel_rfl)
 ·rw[if_neg hy1] at h
  obtain rfl:=oI h
  exact runC2 hm (kW [3] [(0,0,true)] 1 0) (zz 1 (xdF hy1) <|
   ww (qco_ x0 3) <|
   ee) (by kernel_rfl)
theorem qtm_ (n:Nat){rnd:Option Nat}(x1:Nat)(x2:W8)(x3:Int)(st:List Int×Int)(r:List Int)(h:qih_ n x1 x2 x3 st=some r):qwx_ rnd x1 x2 x3 st r:=
 CG.iter (b:=qp_ P 30 [false,false,true,false,true,true,true,true]) (by kernel_rfl) (body:=qdm_ n x1 x2 x3) (S:=qig_ x1 x2 x3) (X:=qgw_ x1 x2 x3)
  (fun s s' h=>qp7_ n x1 x2 x3 s (.inl s') h)
  (fun s r h=>qp7_ n x1 x2 x3 s (.inr r) h)
  (fun r=>by intro hx; cases hx) h
def qdz_ (n:Nat)(a0:W8):Option (NL):=
 (q7_ n a0).bind fun c1_=>
 if c1_=0 then
  if 0≤(((a0).l.length:Nat):Int) then
   if ((((a0).l.length:Nat):Int)).toNat*8≤140737488355328 then
    if 0≤(0:Int)∧(0:Int)<((((((a0).l.length:Nat):Int)).toNat:Nat):Int) then
     if ((0:Int)).toNat<((List.replicate ((((a0).l.length:Nat):Int)).toNat (0:Int))).length then
      (qih_ n (((((a0).l.length:Nat):Int)).toNat) a0 (((a0).l.length:Nat):Int) ((((List.replicate ((((a0).l.length:Nat):Int)).toNat (0:Int))).set ((0:Int)).toNat (-1:Int)),0)).bind fun c7_=>
      if (((((a0).l.length:Nat):Int)).toNat)=c7_.length then
       if hc9:c7_.length≤140737488355328 then
        some (frzL c7_ hc9)
       else none
      else none
     else none
    else none
   else none
  else none
 else
  some nl0
theorem qhp_ (n:Nat)(a0:W8)(r:NL)(h:qdz_ n a0=some r):qzl_ a0 r:=by
 unfold qdz_ at h
 obtain⟨c1_,hc1,h⟩:=oB h
 have k0:=fun {A L l} (k:PL A L l)=>yy 5 (.call (qft_ a0 c1_ [] [])) <|
  ww (qc8_ n a0 c1_ hc1) <|
  k
 by_cases hc2:c1_=0
 ·rw[if_pos hc2] at h
  obtain⟨hc3,h⟩:=gd h
  obtain⟨hc4,h⟩:=gd h
  obtain⟨hc5,h⟩:=gd h
  obtain⟨hc6,h⟩:=gd h
  obtain⟨c7_,hc7,h⟩:=oB h
  obtain⟨hc8,h⟩:=gd h
  obtain⟨hc9,h⟩:=gdD h
  obtain rfl:=oI h
  have k0_:Gv P (.func 30) (qs1_ a0) (qs2_ a0) (Value.slice (some ⟨Nat.add (2*cod c7_+1) 64,0,some 1⟩) (((((a0).l.length:Nat):Int)).toNat) (Nat.add big (((((a0).l.length:Nat):Int)).toNat))) (qn5_ a0 (frzL c7_ hc9)):=runF2 hm ⟨[2],[],0,0,[(0,Nat.add (2*cod c7_+1) 64)],true,[],[],[]⟩ (k0 <|
  zz 6 (xnF hc2) <|
  yy 11 (.mk ((((a0).l.length:Nat):Int)).toNat (iv (List.replicate ((((a0).l.length:Nat):Int)).toNat (0:Int)))) <|
  ww (p:=natOf (i6 (((a0).l.length:Nat):Int))=some ((((a0).l.length:Nat):Int)).toNat) (qeu_ hc3) <|
  ww (p:=natOf (i6 (((a0).l.length:Nat):Int))=some ((((a0).l.length:Nat):Int)).toNat) (qeu_ hc3) <|
  ww (p:=fits ((((a0).l.length:Nat):Int)).toNat 8=true) (fits_ok hc4 (by omega)) <|
  ww (p:=isZ8 [(i6 (0:Int))]=false) (rfl) <|
  ww (p:=reps [(i6 (0:Int))] ((((a0).l.length:Nat):Int)).toNat=(iv (List.replicate ((((a0).l.length:Nat):Int)).toNat (0:Int)))) (qz5_ _) <|
  zz 15 (xk13 0 ((((a0).l.length:Nat):Int)).toNat hc5) <|
  z2 16 (stI ((-1:Int)) hc6) <|
  ww (qtm_ n (rnd:=none) (((((a0).l.length:Nat):Int)).toNat) a0 (((a0).l.length:Nat):Int) ((((List.replicate ((((a0).l.length:Nat):Int)).toNat (0:Int))).set ((0:Int)).toNat (-1:Int)),0) c7_ hc7) <|
  ww (qco_ (((List.replicate ((((a0).l.length:Nat):Int)).toNat (0:Int))).set ((0:Int)).toNat (-1:Int)) 3) <|
  ll 23 ⟨(kW [3,16,17,18] [(0,0,true)] 1 0),(qgw_ (((((a0).l.length:Nat):Int)).toNat) a0 (((a0).l.length:Nat):Int) c7_).1,(qgw_ (((((a0).l.length:Nat):Int)).toNat) a0 (((a0).l.length:Nat):Int) c7_).2⟩ <|
  ww (qon_ ql_ q2_ c7_) <|
  ee) (by kernel_rfl)
  have k1_:=gvLen (fn:=fun m_=>(Value.slice (some ⟨Nat.add (2*cod c7_+1) 64,0,some 1⟩) m_ (Nat.add big m_))) hc8 k0_
  exact k1_
 ·rw[if_neg hc2] at h
  obtain rfl:=oI h
  exact runF2 hm ⟨[2],[],0,0,[],true,[],[],[2]⟩ (k0 <|
   zz 6 (xnT hc2) <|
   ee) (by kernel_rfl)


end Go.Proofs.Ytdcocjjkfodjeaa.spc20
