/-
  The pure side. No condition.
-/
import Derived.Test.YtdcocjjkfodjeaaSpcQPure
import Derived.IntWalk
set_option linter.unusedSimpArgs false
set_option linter.unusedVariables false
set_option linter.unusedSectionVars false
set_option linter.unnecessarySimpa false
noncomputable section
namespace Go.Proofs.Ytdcocjjkfodjeaa.spc20
open Go Go.Proofs.Ytdcocjjkfodjeaa Ax
variable [Args]


theorem eachI {n:Nat}{x:NL}(hx:x.l.length≤1000000)(hn:x.l.length<n):∃ k,qew_ n x=some k∧k.l=x.l:=by
 unfold qew_
 by_cases h0:x.l.length=0
 ·rw[if_pos (by omega)]
  exact⟨nl0,rfl,(List.length_eq_zero_iff.1 h0).symm⟩
 ·rw[if_neg (by omega),if_pos (by omega),if_pos (by omega),Int.toNat_natCast]
  have h:=fillLoop (B:=qcz_ n x.l.length x (x.l.length:Int)) 0 (fun j=>x.l.getD j 0) x.l.length
   (fun j L hj hL=>by
    unfold qcz_ ql7_
    dsimp only
    rw[if_pos (by omega),if_pos (by omega),Int.toNat_natCast,if_pos hj]
    try dsimp only[Option.bind_some]
    rw[if_pos (by omega),if_pos (by omega),w64_inc (by omega)])
   (fun L=>by unfold qcz_; dsimp only; rw[if_neg (by omega)]) n (List.replicate x.l.length 0) (by simp) hn
  have e:(List.range x.l.length).map (fun j=>x.l.getD j 0)=x.l:=by
   have:=qkg_ (f:=id) (d:=(0:Int)) (l:=x.l)
   simpa using this
  rw[e] at h
  have h:qio_ n x.l.length x (x.l.length:Int) (List.replicate x.l.length 0,0)=some x.l:=h
  rw[h]
  try dsimp only[Option.bind_some]
  rw[if_pos rfl,dif_pos x.le]
  exact⟨_,rfl,rfl⟩
theorem pcopy {n:Nat}{x:WL rw_iiiiiiLu}(hk:FewK n x.l)(hx:x.l.length≤1000000)(hn:x.l.length<n):∃ M:List P8,qhj_ n x=some (toS M)∧M.map vw=x.l.map vw:=by
 unfold qhj_ qf0_
 by_cases h0:x.l.length=0
 ·rw[if_pos (by omega)]
  exact⟨[],rfl,by rw[List.length_eq_zero_iff.1 h0]⟩
 ·rw[if_neg (by omega),if_pos (by omega),if_pos (by omega),Int.toNat_natCast]
  obtain⟨r,⟨q0,q1⟩,q2⟩:=hoare (B:=qcq_ n x.l.length x (x.l.length:Int)) (σ:=List P8) (fun L i=>(L,i)) (fun i L=>L.length=x.l.length∧∀ j,j<i→vw (L.getD j d8)=vw (x.l.getD j d8)) (fun r=>r.length=x.l.length∧∀ j,j<x.l.length→vw (r.getD j d8)=vw (x.l.getD j d8)) x.l.length
   (fun i L hi hI=>by
    obtain⟨hL,hI⟩:=hI
    obtain⟨f1,f2⟩:=fewD hk hi
    obtain⟨k,e1,e2⟩:=eachI (n:=n) (x:=(x.l.getD i d8).2.2.2.2.2.2.1) f1 f2
    refine .inl ⟨L.set i (rk (x.l.getD i d8) k),⟨by rw[List.length_set]; exact hL,fun j hj=>?_⟩,?_⟩
    ·rw[qnh_ (by omega)]
     by_cases e:j=i
     ·subst e
      rw[if_pos rfl,vw_rk (f:=id) (by rw[e2,List.map_id])]
      show (_,_,_,_,_,_,List.map id _,_)=_
      rw[List.map_id]
     ·rw[if_neg e]; exact hI j (by omega)
    ·unfold qcq_ qny_ qnx_
     dsimp only
     rw[if_pos (by omega),if_pos (by omega),Int.toNat_natCast]
     try dsimp only[Option.bind_some]
     rw[show qew_ n (x.l.getD i (0,0,0,0,0,0,nl0,0)).2.2.2.2.2.2.1=some k from e1]
     try dsimp only[Option.bind_some]
     rw[if_pos (by omega),if_pos (by omega),w64_inc (by omega)]
     rfl)
   (fun L hI=>⟨L,hI,by unfold qcq_; dsimp only; rw[if_neg (by omega)]⟩)
   n 0 (List.replicate x.l.length d8) (Nat.zero_le _) ⟨by simp,fun j hj=>absurd hj (Nat.not_lt_zero _)⟩ (by omega)
  have q2:qh0_ n x.l.length x (x.l.length:Int) (List.replicate x.l.length (0,0,0,0,0,0,nl0,0),0)=some r:=q2
  rw[q2]
  refine⟨r,?_,?_⟩
  ·cases r with
   | nil=>simp at q0; omega
   | cons a t=>rfl
  apply List.ext_getElem (by simp[q0])
  intro j h1 h2
  have h3:j<x.l.length:=by simpa using h2
  have:=q1 j h3
  simpa [List.getD_eq_getElem?_getD,h3,q0] using this
theorem mapLoop {g:P8→P8}{B:List P8×Int→Option ((List P8×Int) ⊕ (List P8×Nat))}{L:List P8}(h0:0<L.length)
  (hs:∀ (a:P8) (t:List P8) (i:Nat),(a::t).length=L.length→i<L.length→B (a::t,(i:Int))=some (.inl ((a::t).set i (g ((a::t).getD i d8)),((i+1:Nat):Int))))
  (he:∀ (a:P8) (t:List P8),(a::t).length=L.length→B (a::t,(L.length:Int))=some (.inr (a::t,L.length))) (n:Nat) (hn:L.length<n):iterM B n (L,0)=some (L.map g,L.length):=by
 obtain⟨q,rfl,q2⟩:=hoare (B:=B) (σ:=List P8) (fun M j=>(M,j)) (fun j M=>M.length=L.length∧∀ k,M.getD k d8=if k<j then g (L.getD k d8) else L.getD k d8) (fun q=>q=(L.map g,L.length)) L.length
  (fun j M hj hM=>by
   have hMl:=hM.1
   refine .inl ⟨M.set j (g (M.getD j d8)),⟨by rw[List.length_set]; exact hM.1,fun k=>?_⟩,?_⟩
   ·rw[qnh_ (by omega),hM.2 k,hM.2 j,if_neg (Nat.lt_irrefl j)]
    by_cases e:k=j
    ·subst e; rw[if_pos rfl,if_pos (by omega)]
    ·rw[if_neg e]
     by_cases c:k<j
     ·rw[if_pos c,if_pos (by omega)]
     ·rw[if_neg c,if_neg (by omega)]
   ·cases M with
    | nil=>simp at hMl; omega
    | cons a t=>exact hs a t j hMl hj)
  (fun M hM=>by
   have hMl:=hM.1
   have e:M=L.map g:=by
    refine q1r_ (d:=d8) (by rw[List.length_map]; exact hM.1) fun j hj=>?_
    rw[List.length_map] at hj
    rw[hM.2 j,if_pos hj]
    simp[List.getD_eq_getElem?_getD,hj]
   refine⟨_,rfl,?_⟩
   rw[←e]
   cases M with
   | nil=>simp at hMl; omega
   | cons a t=>exact he a t hMl)
  n 0 L (Nat.zero_le _) ⟨rfl,fun k=>by rw[if_neg (Nat.not_lt_zero _)]⟩ (by omega)
 exact q2
def mtR (f:Int→Int)(r:P8):P8:=(r.1,r.2.1,r.2.2.1,r.2.2.2.1,r.2.2.2.2.1,r.2.2.2.2.2.1,r.2.2.2.2.2.2.1,f r.2.2.2.2.2.2.2)
def mtV (f:Int→Int)(v:V8):V8:=(v.1,v.2.1,v.2.2.1,v.2.2.2.1,v.2.2.2.2.1,v.2.2.2.2.2.1,v.2.2.2.2.2.2.1,f v.2.2.2.2.2.2.2)
theorem map_mt {f:Int→Int}{L:List P8}{X:List V8}(h:L.map vw=X):(L.map (mtR f)).map vw=X.map (mtV f):=by
 rw[←h,List.map_map,List.map_map]; rfl
def clr (s m:Int):Int:=qoo_ .u64 m (shlV .u64 1 s)
def gv (s d m:Int):Int:=if bAnd .u64 (shrV .u64 m s) 1=1 then bOr .u64 (clr s m) (shlV .u64 1 d) else m
theorem wr {s:Int}(h:0≤s∧s<64):IntKind.u64.wrap s=s:=IntWalk.u64_in _ (by omega)
theorem clrP {n:Nat}{s:Int}{L:List P8}(h0:0<L.length)(hL:L.length≤1000000)(hs:0≤s)(hn:L.length<n):qfq_ n s L.length (L.length:Int) (L,0)=some (L.map (mtR (clr s)),L.length):=
 mapLoop (g:=mtR (clr s)) h0
  (fun a t i hl hi=>by
   unfold qee_
   dsimp only
   rw[if_pos (by omega),if_pos (by omega),Int.toNat_natCast,if_pos (by omega)]
   try dsimp only[Option.bind_some]
   rw[if_pos hs,w64_inc (by omega)]
   rfl)
  (fun a t hl=>by unfold qee_; dsimp only; rw[if_neg (by omega)]) n hn
theorem givP {n:Nat}{s d:Int}{L:List P8}(h0:0<L.length)(hL:L.length≤1000000)(hs:0≤s)(hd:0≤d)(hn:L.length<n):qgc_ n s d L.length (L.length:Int) (L,0)=some (L.map (mtR (gv s d)),L.length):=
 mapLoop (g:=mtR (gv s d)) h0
  (fun a t i hl hi=>by
   unfold qe6_
   dsimp only
   rw[if_pos (by omega),if_pos (by omega),Int.toNat_natCast,if_pos (by omega)]
   try dsimp only[Option.bind_some]
   rw[if_pos hs,w64_inc (by omega)]
   by_cases c:bAnd .u64 (shrV .u64 ((a::t).getD i (0,0,0,0,0,0,nl0,0)).2.2.2.2.2.2.2 s) 1=1
   ·rw[if_pos c,if_pos hd]
    have:gv s d ((a::t).getD i d8).2.2.2.2.2.2.2=bOr .u64 (clr s ((a::t).getD i d8).2.2.2.2.2.2.2) (shlV .u64 1 d):=if_pos c
    unfold mtR
    rw[this]
    rfl
   ·rw[if_neg c]
    have:gv s d ((a::t).getD i d8).2.2.2.2.2.2.2=((a::t).getD i d8).2.2.2.2.2.2.2:=if_neg c
    unfold mtR
    rw[this]
    have e:(a::t).set i ((a::t).getD i d8)=a::t:=by
     refine q1r_ (d:=d8) (by simp) fun j hj=>?_
     rw[qnh_ (by omega)]
     by_cases e:j=i
     ·rw[if_pos e,e]
     ·rw[if_neg e]
    show some (Sum.inl (a::t,_))=some (Sum.inl ((a::t).set i ((a::t).getD i d8),_))
    rw[e])
  (fun a t hl=>by unfold qe6_; dsimp only; rw[if_neg (by omega)]) n hn
theorem clrR {n:Nat}{s:Int}{L:List P8}(h0:0<L.length)(hL:L.length≤1000000)(hs:0≤s∧s<64)(hn:L.length<n):qbd_ n s L.length (L,0)=some (L.map (mtR (clr s)),L.length):=
 mapLoop (g:=mtR (clr s)) h0
  (fun a t i hl hi=>by
   unfold qbc_ qv_
   dsimp only
   rw[if_pos (by omega),if_pos (by omega),if_pos (by omega)]
   try dsimp only[Option.bind_some]
   rw[if_pos rfl,if_pos (by omega),Int.toNat_natCast,if_pos (by omega),wr hs]
   try dsimp only[Option.bind_some]
   rw[if_pos hs.1,w64_inc (by omega)]
   rfl)
  (fun a t hl=>by unfold qbc_; dsimp only; rw[if_neg (by omega)]) n hn
theorem givR {n:Nat}{s d:Int}{L:List P8}(h0:0<L.length)(hL:L.length≤1000000)(hs:0≤s∧s<64)(hd:0≤d∧d<64)(hn:L.length<n):qbh_ n s d L.length (L,0)=some (L.map (mtR (gv s d)),L.length):=
 mapLoop (g:=mtR (gv s d)) h0
  (fun a t i hl hi=>by
   unfold qbg_ qv_
   dsimp only
   rw[if_pos (by omega),if_pos (by omega),if_pos (by omega)]
   try dsimp only[Option.bind_some]
   rw[if_pos rfl,if_pos (by omega),if_pos (by omega)]
   try dsimp only[Option.bind_some]
   rw[if_pos rfl,if_pos (by omega),Int.toNat_natCast,if_pos (by omega),wr hs,wr hd]
   try dsimp only[Option.bind_some]
   rw[if_pos hs.1,w64_inc (by omega)]
   try dsimp only[Option.bind_some]
   by_cases c:bAnd .u64 (shrV .u64 ((a::t).getD i (0,0,0,0,0,0,nl0,0)).2.2.2.2.2.2.2 s) 1=1
   ·rw[if_pos c]
    try dsimp only[Option.bind_some]
    rw[if_pos hd.1]
    have:gv s d ((a::t).getD i d8).2.2.2.2.2.2.2=bOr .u64 (clr s ((a::t).getD i d8).2.2.2.2.2.2.2) (shlV .u64 1 d):=if_pos c
    unfold mtR
    rw[this]
    rfl
   ·rw[if_neg c]
    have:gv s d ((a::t).getD i d8).2.2.2.2.2.2.2=((a::t).getD i d8).2.2.2.2.2.2.2:=if_neg c
    unfold mtR
    rw[this]
    have e:(a::t).set i ((a::t).getD i d8)=a::t:=by
     refine q1r_ (d:=d8) (by simp) fun j hj=>?_
     rw[qnh_ (by omega)]
     by_cases e:j=i
     ·rw[if_pos e,e]
     ·rw[if_neg e]
    show some (Sum.inl (a::t,_))=some (Sum.inl ((a::t).set i ((a::t).getD i d8),_))
    rw[e])
  (fun a t hl=>by unfold qbg_; dsimp only; rw[if_neg (by omega)]) n hn


def Rng (L:List P8):Prop:=∀ r∈L,∀ k∈r.2.2.2.2.2.2.1.l,-9223372036854775808≤k∧k<9223372036854775808
theorem ins_id {L:List P8}(h:Rng L):(L.map fun r=>mvK (ins 0) (vw r))=L.map vw:=by
 refine List.map_congr_left fun r hr=>mv_id fun k hk=>?_
 have:=h r hr k hk
 unfold ins
 rw[Int.add_zero,w64_id this.1 this.2]
def slot (s:Int):Prop:=0≤s∧s<64
theorem qxc_ {n:Nat}{s:Int}:∃ b,qcd_ n s=some b∧(b=true ↔ slot s):=by
 unfold qcd_ slot
 by_cases c1:s ≥ 0
 ·rw[if_pos c1]
  by_cases c2:s<64
  ·rw[if_pos c2]; exact⟨true,rfl,fun _=>⟨c1,c2⟩,fun _=>rfl⟩
  ·rw[if_neg c2]; exact⟨false,rfl,(fun h=>by cases h),fun h=>absurd h.2 c2⟩
 ·rw[if_neg c1]; exact⟨false,rfl,(fun h=>by cases h),fun h=>absurd h.1 c1⟩
theorem slot_ok {n:Nat}{s:Int}:∃ b,qv_ n s=some b∧(b=true ↔ slot s):=by
 unfold qv_ slot
 by_cases c1:s ≥ 0
 ·rw[if_pos c1]
  by_cases c2:s≤63
  ·rw[if_pos c2]; exact⟨true,rfl,fun _=>⟨c1,by omega⟩,fun _=>rfl⟩
  ·rw[if_neg c2]; exact⟨false,rfl,(fun h=>by cases h),fun h=>absurd h.2 (by omega)⟩
 ·rw[if_neg c1]; exact⟨false,rfl,(fun h=>by cases h),fun h=>absurd h.1 c1⟩
open Classical in
theorem clear_ok {n:Nat}{s:Int}{x:WL rw_iiiiiiLu}(hr:Rng x.l)(hk:FewK n x.l)(hx:x.l.length≤1000000)(hn:x.l.length+1<n) :
  ∃ y z,qgz_ n x s=some y∧qc3_ n x s=some z∧y.l.map vw=(x.l.map vw).map (if slot s then mtV (clr s) else id)∧z.l.map vw=(x.l.map vw).map (if slot s then mtV (clr s) else id):=by
 obtain⟨M,h1,h2⟩:=pcopy (n:=n) hk hx (by omega)
 obtain⟨R,h3,h4⟩:=copy_s (n:=n) hk hx (by omega)
 rw[ins_id hr] at h4
 have hMl:M.length=x.l.length:=by simpa using congrArg List.length h2
 have hRl:R.length=x.l.length:=by simpa using congrArg List.length h4
 obtain⟨b,e1,e2⟩:=qxc_ (n:=n) (s:=s)
 obtain⟨c,e3,e4⟩:=slot_ok (n:=n) (s:=s)
 unfold qgz_ qc3_
 rw[h1,h3]
 obtain⟨m,hm⟩:∃ m,n=m+1:=⟨n-1,by omega⟩
 cases M with
 | nil=>
  have hR:R=[]:=List.length_eq_zero_iff.1 (by rw[hRl,←hMl]; rfl)
  subst hR
  have hv:x.l.map vw=[]:=h2.symm
  have g1:qfq_ n s 0 0 ([],0)=some ([],0):=by
   rw[hm]; unfold qfq_; rw[qc0_]; unfold qee_; rfl
  have g2:qbd_ n s 0 ([],0)=some ([],0):=by
   rw[hm]; unfold qbd_; rw[qc0_]; unfold qbc_; rfl
  try dsimp only[Option.bind_some,toS]
  rw[e1,g2]
  try dsimp only[Option.bind_some]
  rw[hv]
  cases b with
  | true=>rw[if_pos rfl,g1]; exact⟨wl0,wl0,rfl,rfl,rfl,rfl⟩
  | false=>rw[if_neg (by decide)]; exact⟨wl0,wl0,rfl,rfl,rfl,rfl⟩
 | cons a t=>
  cases R with
  | nil=>simp at hRl hMl; omega
  | cons ra rt=>
  try dsimp only[Option.bind_some,toS]
  rw[e1,show ((x.l.length:Nat):Int).toNat=(a::t).length by rw[Int.toNat_natCast]; exact hMl.symm]
  try dsimp only[Option.bind_some]
  by_cases cs:slot s
  ·rw[if_pos cs,if_pos (e2.2 cs),clrP (L:=a::t) (by simp) (by omega) cs.1 (by omega),clrR (L:=ra::rt) (by simp) (by omega) cs (by omega)]
   have v1:=map_mt (f:=clr s) (L:=a::t) h2
   have v2:=map_mt (f:=clr s) (L:=ra::rt) h4
   have n1:((a::t).map (mtR (clr s))).length=(a::t).length:=List.length_map ..
   have n2:((ra::rt).map (mtR (clr s))).length=(ra::rt).length:=List.length_map ..
   obtain⟨a',t',u1⟩:∃ a' t',(a::t).map (mtR (clr s))=a' :: t':=⟨_,_,rfl⟩
   obtain⟨b1,u',u2⟩:∃ b1 u',(ra::rt).map (mtR (clr s))=b1::u':=⟨_,_,rfl⟩
   rw[u1] at v1 n1
   rw[u2] at v2 n2
   rw[u1,u2]
   try dsimp only[Option.bind_some]
   rw[if_pos n1.symm,dif_pos (by omega),if_pos n2.symm,dif_pos (by omega)]
   exact⟨_,_,rfl,rfl,v1,v2⟩
  ·rw[if_neg cs,if_neg (fun h=>cs (e2.1 h)),if_pos rfl,dif_pos (by omega)]
   have g2:qbd_ n s (ra::rt).length (ra::rt,0)=some (ra::rt,(ra::rt).length):=by
    rw[hm] at e3 ⊢
    unfold qbd_
    rw[qc0_]
    unfold qbc_
    dsimp only
    rw[if_pos (show (0:Int)<(((ra::rt).length:Nat):Int) from Int.ofNat_lt.2 (Nat.succ_pos _)),e3]
    try dsimp only[Option.bind_some]
    rw[if_neg (fun h=>cs (e4.1 h))]
    rfl
   rw[g2]
   try dsimp only[Option.bind_some]
   rw[if_pos rfl,dif_pos (by omega),List.map_id]
   exact⟨_,_,rfl,rfl,h2,h4⟩
open Classical in
theorem give_ok {n:Nat}{s d:Int}{x:WL rw_iiiiiiLu}(hr:Rng x.l)(hk:FewK n x.l)(hx:x.l.length≤1000000)(hn:x.l.length+1<n) :
  ∃ y z,qhs_ n x s d=some y∧qdj_ n x s d=some z∧y.l.map vw=(x.l.map vw).map (if slot s∧slot d then mtV (gv s d) else id)∧z.l.map vw=(x.l.map vw).map (if slot s∧slot d then mtV (gv s d) else id):=by
 obtain⟨M,h1,h2⟩:=pcopy (n:=n) hk hx (by omega)
 obtain⟨R,h3,h4⟩:=copy_s (n:=n) hk hx (by omega)
 rw[ins_id hr] at h4
 have hMl:M.length=x.l.length:=by simpa using congrArg List.length h2
 have hRl:R.length=x.l.length:=by simpa using congrArg List.length h4
 obtain⟨b,e1,e2⟩:=qxc_ (n:=n) (s:=s)
 obtain⟨c,e3,e4⟩:=slot_ok (n:=n) (s:=s)
 obtain⟨b',e1',e2'⟩:=qxc_ (n:=n) (s:=d)
 obtain⟨c',e3',e4'⟩:=slot_ok (n:=n) (s:=d)
 unfold qhs_ qdj_
 rw[h1,h3]
 obtain⟨m,hm⟩:∃ m,n=m+1:=⟨n-1,by omega⟩
 cases M with
 | nil=>
  have hR:R=[]:=List.length_eq_zero_iff.1 (by rw[hRl,←hMl]; rfl)
  subst hR
  have hv:x.l.map vw=[]:=h2.symm
  have g1:qgc_ n s d 0 0 ([],0)=some ([],0):=by
   rw[hm]; unfold qgc_; rw[qc0_]; unfold qe6_; rfl
  have g2:qbh_ n s d 0 ([],0)=some ([],0):=by
   rw[hm]; unfold qbh_; rw[qc0_]; unfold qbg_; rfl
  try dsimp only[Option.bind_some,toS]
  rw[e1,g2]
  try dsimp only[Option.bind_some]
  rw[hv]
  cases b with
  | false=>rw[if_neg (by decide)]; exact⟨wl0,wl0,rfl,rfl,rfl,rfl⟩
  | true=>
   rw[if_pos rfl,e1']
   try dsimp only[Option.bind_some]
   cases b' with
   | true=>rw[if_pos rfl,g1]; exact⟨wl0,wl0,rfl,rfl,rfl,rfl⟩
   | false=>rw[if_neg (by decide)]; exact⟨wl0,wl0,rfl,rfl,rfl,rfl⟩
 | cons a t=>
  cases R with
  | nil=>simp at hRl hMl; omega
  | cons ra rt=>
  try dsimp only[Option.bind_some,toS]
  rw[e1,show ((x.l.length:Nat):Int).toNat=(a::t).length by rw[Int.toNat_natCast]; exact hMl.symm]
  try dsimp only[Option.bind_some]
  by_cases cs:slot s∧slot d
  ·rw[if_pos cs,if_pos (e2.2 cs.1),e1']
   try dsimp only[Option.bind_some]
   rw[if_pos (e2'.2 cs.2),givP (L:=a::t) (by simp) (by omega) cs.1.1 cs.2.1 (by omega),givR (L:=ra::rt) (by simp) (by omega) cs.1 cs.2 (by omega)]
   have v1:=map_mt (f:=gv s d) (L:=a::t) h2
   have v2:=map_mt (f:=gv s d) (L:=ra::rt) h4
   have n1:((a::t).map (mtR (gv s d))).length=(a::t).length:=List.length_map ..
   have n2:((ra::rt).map (mtR (gv s d))).length=(ra::rt).length:=List.length_map ..
   obtain⟨a',t',u1⟩:∃ a' t',(a::t).map (mtR (gv s d))=a' :: t':=⟨_,_,rfl⟩
   obtain⟨b1,u',u2⟩:∃ b1 u',(ra::rt).map (mtR (gv s d))=b1::u':=⟨_,_,rfl⟩
   rw[u1] at v1 n1
   rw[u2] at v2 n2
   rw[u1,u2]
   try dsimp only[Option.bind_some]
   rw[if_pos n1.symm,dif_pos (by omega),if_pos n2.symm,dif_pos (by omega)]
   exact⟨_,_,rfl,rfl,v1,v2⟩
  ·have g2:qbh_ n s d (ra::rt).length (ra::rt,0)=some (ra::rt,(ra::rt).length):=by
    rw[hm] at e3 e3' ⊢
    unfold qbh_
    rw[qc0_]
    unfold qbg_
    dsimp only
    rw[if_pos (show (0:Int)<(((ra::rt).length:Nat):Int) from Int.ofNat_lt.2 (Nat.succ_pos _)),e3]
    try dsimp only[Option.bind_some]
    by_cases k1:c=true
    ·rw[if_pos k1,e3']
     try dsimp only[Option.bind_some]
     rw[if_neg (fun h=>cs ⟨e4.1 k1,e4'.1 h⟩)]
     rfl
    ·rw[if_neg k1]
     rfl
   rw[g2]
   try dsimp only[Option.bind_some]
   rw[if_neg cs,List.map_id,if_pos (show (ra::rt).length=(ra::rt).length from rfl),dif_pos (show (ra::rt).length≤9223372036854775807 by omega)]
   by_cases k1:b=true
   ·rw[if_pos k1,e1']
    try dsimp only[Option.bind_some]
    rw[if_neg (fun h=>cs ⟨e2.1 k1,e2'.1 h⟩),if_pos rfl,dif_pos (by omega)]
    exact⟨_,_,rfl,rfl,h2,h4⟩
   ·rw[if_neg k1,if_pos rfl,dif_pos (by omega)]
    exact⟨_,_,rfl,rfl,h2,h4⟩


theorem shr1 {f:Nat}(hf:f<64)(m:BitVec 64):shrV .u64 ((m.toNat:Nat):Int) (f:Int)=(((m >>> f).toNat:Nat):Int):=by
 unfold shrV
 rw[show IntKind.u64.bits=64 from rfl,Int.toNat_natCast,show min f 64=f by omega,BitVec.toNat_ushiftRight,Nat.shiftRight_eq_div_pow]
 rw[show ((2:Int) ^ f)=((2 ^ f:Nat):Int) by simp,Int.fdiv_eq_ediv_of_nonneg _ (Int.natCast_nonneg _)]
 exact (Int.natCast_ediv _ _).symm
theorem bitIs {v s:Int}(hv:Un v)(hs:slot s):bAnd .u64 (shrV .u64 v s) 1=if bt v s.toNat=true then 1 else 0:=by
 obtain⟨m,rfl⟩:=hv
 obtain⟨f,rfl⟩:∃ f:Nat,s=f:=⟨s.toNat,(Int.toNat_of_nonneg hs.1).symm⟩
 have hf:f<64:=by have:=hs.2; omega
 rw[shr1 hf,Int.toNat_natCast]
 have e:bAnd .u64 (((m >>> f).toNat:Nat):Int) 1=((((m >>> f) &&& 1#64).toNat:Nat):Int):=by
  unfold bAnd
  rw[show IntKind.u64.bits=64 from rfl,ofI,show BitVec.ofInt 64 1=1#64 from rfl,u64w]
 have hb:bt ((m.toNat:Nat):Int) f=m.getLsbD f:=by unfold bt; rw[ofI]
 rw[e,hb,show (m >>> f) &&& 1#64=if m.getLsbD f=true then 1#64 else 0#64 from BitVec.eq_of_getLsbD_eq fun i hi=>by
  rw[BitVec.getLsbD_and,BitVec.getLsbD_ushiftRight]
  by_cases c:m.getLsbD f=true
  ·rw[if_pos c]
   rcases Nat.eq_zero_or_pos i with rfl | h0
   ·rw[Nat.add_zero,c]; rfl
   ·have:(1#64:BitVec 64).getLsbD i=false:=by simp; omega
    rw[this,Bool.and_false]
  ·rw[if_neg c]
   rcases Nat.eq_zero_or_pos i with rfl | h0
   ·rw[Nat.add_zero,Bool.eq_false_iff.2 c]; rfl
   ·have:(1#64:BitVec 64).getLsbD i=false:=by simp; omega
    rw[this,Bool.and_false]; simp]
 by_cases c:m.getLsbD f=true
 ·rw[if_pos c,if_pos c]; rfl
 ·rw[if_neg c,if_neg c]; rfl
def RngU (L:List P8):Prop:=∀ r∈L,Un (mt r)
abbrev toOf (x:WL rw_iiiiiiLu)(i:Nat):Int:=@toF _ ⟨x⟩ i
def DN (x:WL rw_iiiiiiLu)(i s f1 f2:Int):Prop:=
 ∃ k e:Nat,i=k∧k<x.l.length∧TreeOf x∧KsOf x k 0 (k+1) (atOf x k) e∧e≤x.l.length∧slot s∧f1≤f2∧atOf x k≤f1∧f2≤toOf x k∧∀ j,j<x.l.length→bt (mt (x.l.getD j d8)) s.toNat=true→k≤j∧j<e
theorem outside {x:WL rw_iiiiiiLu}{k e b:Nat}(hke:k≤e)(he:e≤x.l.length):bt (bOr .u64 (orM ((x.l.drop 0).take (k-0))) (orM ((x.l.drop e).take (x.l.length-e)))) b=true ↔ ¬ ∀ j,j<x.l.length→bt (mt (x.l.getD j d8)) b=true→k≤j∧j<e:=by
 rw[bt_or,Bool.or_eq_true,bt_orM,bt_orM,List.drop_zero,Nat.sub_zero,List.take_of_length_le (l:=x.l.drop e) (by simp)]
 constructor
 ·rintro (⟨r,h1,h2⟩ | ⟨r,h1,h2⟩) h
  ·obtain⟨j,hj,rfl⟩:=qjr_ d8 h1
   have hj':j<k∧j<x.l.length:=by rw[List.length_take] at hj; omega
   rw[qxa_ hj'.1] at h2
   have:=h j hj'.2 h2
   omega
  ·obtain⟨j,hj,rfl⟩:=qjr_ d8 h1
   rw[List.length_drop] at hj
   rw[q1s_] at h2
   have:=h (e+j) (by omega) h2
   omega
 ·intro h
  refine Classical.byContradiction fun hc=>h fun j hj hb=>?_
  refine Classical.byContradiction fun hn=>hc ?_
  rcases Nat.lt_or_ge j k with g | g
  ·refine .inl ⟨x.l.getD j d8,?_,hb⟩
   rw[←qxa_ g]
   exact qog_ (by rw[List.length_take]; omega)
  ·refine .inr ⟨x.l.getD j d8,?_,hb⟩
   have e1:j=e+(j-e):=by omega
   rw[e1,←q1s_]
   exact qog_ (by rw[List.length_drop]; omega)
theorem endNo {n:Nat}{x:WL rw_iiiiiiLu}{i:Int}(hx:x.l.length≤500)(hn:x.l.length<n)(h:¬ ∃ k:Nat,i=k∧k<x.l.length∧TreeOf x):qho_ n x i=some 0:=by
 obtain⟨c,h1,h2⟩:=chkAny (n:=n) (x:=x) (by omega) hn
 unfold qho_ qmh_
 by_cases c1:i ≥ 0
 ·rw[if_pos c1]
  by_cases c2:i<((x.l.length:Nat):Int)
  ·rw[if_pos c2,h1]
   try dsimp only[Option.bind_some]
   rw[if_neg (fun hc=>h ⟨i.toNat,by omega,by omega,h2.1 hc⟩)]
   rfl
  ·rw[if_neg c2]; rfl
 ·rw[if_neg c1]; rfl
theorem refEnd {n k e K:Nat}{x:WL rw_iiiiiiLu}(hT:TreeOf x)(hx:x.l.length≤500)(hn:2000<n)(hk:k<x.l.length)(he:KsOf x k 0 (k+1) (atOf x k) e):qe4_ n x (k:Int)=some (e:Int):=by
 unfold qe4_ qd9_
 rw[qwj_ hT (by omega)]
 try dsimp only[Option.bind_some]
 rw[if_pos rfl,if_pos (by omega),if_pos (by omega)]
 try dsimp only[Option.bind_some]
 rw[if_pos rfl,show qd_ n x (k:Int)=some (e:Int) from @endOf _ ⟨x⟩ x.l.length k e (fun j=>@Tree.few _ ⟨x⟩ hT j) he hk n (by show x.l.length-k+x.l.length+10<n; omega)]
 rfl
theorem doneLoop {n k e:Nat}{x:WL rw_iiiiiiLu}{s f1 f2 f3 f4:Int}(hU:RngU x.l)(hx:x.l.length≤500)(hn:2000<n)(hs:slot s):∃ r,qfg_ n x (k:Int) s f1 f2 f3 f4 (e:Int) 0=some r∧(r=.inr () ↔ ∀ j,j<x.l.length→bt (mt (x.l.getD j d8)) s.toNat=true→k≤j∧j<e):=by
 obtain⟨r,q1,q2⟩:=hoare (B:=qb5_ n x (k:Int) s f1 f2 f3 f4 (e:Int)) (σ:=Unit) (fun _ j=>j) (fun i _=>∀ j,j<i→bt (mt (x.l.getD j d8)) s.toNat=true→k≤j∧j<e) (fun r=>(r=.inr () ↔ ∀ j,j<x.l.length→bt (mt (x.l.getD j d8)) s.toNat=true→k≤j∧j<e)) x.l.length
  (fun i _ hi hI=>by
   have hb:=bitIs (v:=mt (x.l.getD i d8)) (hU _ (qog_ hi)) hs
   have go:(bt (mt (x.l.getD i d8)) s.toNat=true→k≤i∧i<e)→∀ j,j<i+1→bt (mt (x.l.getD j d8)) s.toNat=true→k≤j∧j<e:=fun h j hj=>by
    rcases Nat.lt_or_ge j i with g | g
    ·exact hI j g
    ·obtain rfl:j=i:=by omega
     exact h
   unfold qb5_
   dsimp only
   rw[if_pos (by omega),if_pos (by omega),Int.toNat_natCast,wr hs]
   try dsimp only[Option.bind_some]
   rw[if_pos hs.1]
   try dsimp only[Option.bind_some]
   rw[show bAnd .u64 (shrV .u64 (x.l.getD i (0,0,0,0,0,0,nl0,0)).2.2.2.2.2.2.2 s) 1=_ from hb]
   by_cases c:bt (mt (x.l.getD i d8)) s.toNat=true
   ·rw[if_pos c,if_pos rfl]
    by_cases c1:(i:Int)<(k:Int)
    ·rw[if_pos c1]
     exact .inr ⟨_,⟨(fun h=>by cases h),fun h=>by have:=h i hi c; omega⟩,rfl⟩
    ·rw[if_neg c1]
     by_cases c2:(i:Int) ≥ (e:Int)
     ·rw[if_pos c2]
      exact .inr ⟨_,⟨(fun h=>by cases h),fun h=>by have:=h i hi c; omega⟩,rfl⟩
     ·rw[if_neg c2,w64_inc (by omega)]
      exact .inl ⟨(),go fun _=>by omega,rfl⟩
   ·rw[if_neg c,if_neg (by decide),w64_inc (by omega)]
    exact .inl ⟨(),go fun h=>absurd h c,rfl⟩)
  (fun _ hI=>⟨_,⟨fun _=>hI,fun _=>rfl⟩,by unfold qb5_; dsimp only; rw[if_neg (by omega)]⟩)
  n 0 () (Nat.zero_le _) (fun j hj=>absurd hj (Nat.not_lt_zero _)) (by omega)
 exact⟨r,q2,q1⟩
theorem done2 {n K:Nat}{x:WL rw_iiiiiiLu}{i s f1 f2 f3 f4:Int}(hU:RngU x.l)(hK:∀ j,(@kd _ ⟨x⟩ j).length≤K)(hx:x.l.length≤500)(hn:2000+K<n) :
  ∃ b,qdy_ n x i s f1 f2 f3 f4=some b∧qb1_ n x i s f1 f2 f3 f4=some b∧(b=true ↔ DN x i s f1 f2):=by
 obtain⟨c,g1,g2⟩:=refAny (n:=n) (x:=x) (by omega) hK (by omega)
 by_cases hh:∃ k:Nat,i=k∧k<x.l.length∧TreeOf x
 ·obtain⟨k,rfl,hk,hT⟩:=hh
  obtain⟨e,he,hlt,hel⟩:=@Tree.end _ ⟨x⟩ hT k hk
  have hel:e≤x.l.length:=hel
  have key:∀ b:Bool,(b=true ↔ (slot s∧f1≤f2∧atOf x k≤f1∧f2≤toOf x k∧∀ j,j<x.l.length→bt (mt (x.l.getD j d8)) s.toNat=true→k≤j∧j<e))→(b=true ↔ DN x (k:Int) s f1 f2):=fun b hb=>by
   rw[hb]
   constructor
   ·rintro ⟨h1,h2,h3,h4,h5⟩
    exact⟨k,e,rfl,hk,hT,he,hel,h1,h2,h3,h4,h5⟩
   ·rintro ⟨k',e',h0,h1,h2,h3,h4,h5,h6,h7,h8,h9⟩
    obtain rfl:k=k':=by omega
    obtain rfl:e'=e:=@Ks.uniq _ ⟨x⟩ k e' e h3 he hk
    exact⟨h5,h6,h7,h8,h9⟩
  obtain rfl:c=0:=g2.2 hT
  obtain⟨b1,e1,e2⟩:=qxc_ (n:=n) (s:=s)
  obtain⟨b2,e3,e4⟩:=slot_ok (n:=n) (s:=s)
  unfold qdy_ qdx_ qb1_
  rw[tEnd hT (by omega) (by omega) he hk hel,g1]
  try dsimp only[Option.bind_some]
  rw[if_neg (show ¬ (e:Int)=0 by omega),e1,if_pos (show (0:Int)=0 from rfl),if_neg (show ¬ (k:Int)<0 by omega),if_neg (show ¬ (k:Int) ≥ ((x.l.length:Nat):Int) by omega),e3]
  try dsimp only[Option.bind_some]
  by_cases cs:slot s
  ·rw[if_pos (e2.2 cs),if_pos (e4.2 cs),if_pos (show 0≤(k:Int)∧(k:Int)<((x.l.length:Nat):Int) by omega),if_pos (show 0≤(k:Int)∧(k:Int)<((x.l.length:Nat):Int) by omega),Int.toNat_natCast]
   try dsimp only[Option.bind_some]
   have ha:(x.l.getD k (0,0,0,0,0,0,nl0,0)).2.2.1=atOf x k:=rfl
   have ht:(x.l.getD k (0,0,0,0,0,0,nl0,0)).2.2.2.2.1=toOf x k:=rfl
   rw[ha,ht]
   by_cases c1:f1 > f2
   ·rw[if_pos c1]
    refine⟨false,rfl,?_,key false ⟨(fun h=>by cases h),fun h=>by have:=h.2.1; omega⟩⟩
    split
    ·rfl
    split
    ·rfl
    rfl
   rw[if_neg c1,if_neg c1]
   by_cases c2:f1<atOf x k
   ·rw[if_pos c2,if_pos c2]; exact⟨false,rfl,rfl,key false ⟨(fun h=>by cases h),fun h=>by have:=h.2.2.1; omega⟩⟩
   rw[if_neg c2,if_neg c2]
   by_cases c3:f2 > toOf x k
   ·rw[if_pos c3,if_pos c3]; exact⟨false,rfl,rfl,key false ⟨(fun h=>by cases h),fun h=>by have:=h.2.2.2.1; omega⟩⟩
   rw[if_neg c3,if_neg c3,refEnd (K:=K) hT hx (by omega) hk he]
   try dsimp only[Option.bind_some]
   have g1:=qxb_ (n:=n) (a:=0) (b:=k) (x:=x) (by omega) (by omega) (by omega) (by omega)
   have g2:=qxb_ (n:=n) (a:=e) (b:=x.l.length) (x:=x) (by omega) (by omega) (by omega) (by omega)
   have g1:qcc_ n x 0 (k:Int)=_:=g1
   rw[g1]
   try dsimp only[Option.bind_some]
   rw[g2]
   try dsimp only[Option.bind_some]
   rw[if_pos cs.1,bitIs un_or cs]
   obtain⟨r,h1,h2⟩:=doneLoop (n:=n) (k:=k) (e:=e) (f1:=f1) (f2:=f2) (f3:=f3) (f4:=f4) hU hx (by omega) cs
   rw[h1]
   have ho:=outside (x:=x) (k:=k) (e:=e) (b:=s.toNat) (by omega) hel
   by_cases c4:∀ j,j<x.l.length→bt (mt (x.l.getD j d8)) s.toNat=true→k≤j∧j<e
   ·rw[h2.2 c4,if_neg (fun h=>ho.1 h c4),if_pos rfl]
    exact⟨true,rfl,rfl,key true ⟨fun _=>⟨cs,by omega,by omega,by omega,c4⟩,fun _=>rfl⟩⟩
   ·rw[if_pos (ho.2 c4),if_neg (by decide)]
    refine⟨false,rfl,?_,key false ⟨(fun h=>by cases h),fun h=>absurd h.2.2.2.2 c4⟩⟩
    cases r with
    | inl u=>rfl
    | inr u=>exact absurd (h2.1 rfl) c4
  ·rw[if_neg (fun h=>cs (e2.1 h)),if_neg (fun h=>cs (e4.1 h))]
   exact⟨false,rfl,rfl,key false ⟨(fun h=>by cases h),fun h=>absurd h.1 cs⟩⟩
 ·have no:¬ DN x i s f1 f2:=fun⟨k,e,h0,h1,h2,_⟩=>hh ⟨k,h0,h1,h2⟩
  refine⟨false,?_,?_,(fun h=>by cases h),fun h=>absurd h no⟩
  ·unfold qdy_
   rw[endNo hx (by omega) hh]
   rfl
  ·unfold qb1_
   rw[g1]
   try dsimp only[Option.bind_some]
   by_cases c1:c=0
   ·rw[if_pos c1]
    by_cases c2:i<0
    ·rw[if_pos c2]
    ·rw[if_neg c2]
     by_cases c3:i ≥ ((x.l.length:Nat):Int)
     ·rw[if_pos c3]
     ·exact absurd ⟨i.toNat,by omega,by omega,g2.1 c1⟩ hh
   ·rw[if_neg c1]


theorem Alike.at' {x y:WL rw_iiiiiiLu}(h:Alike x y)(j:Nat):atOf y j=atOf x j:=congrArg (fun v:V8=>v.2.2.1) (h.row j)
theorem Alike.to' {x y:WL rw_iiiiiiLu}(h:Alike x y)(j:Nat):toOf y j=toOf x j:=congrArg (fun v:V8=>v.2.2.2.2.1) (h.row j)
theorem Alike.mt' {x y:WL rw_iiiiiiLu}(h:Alike x y)(j:Nat):mt (y.l.getD j d8)=mt (x.l.getD j d8):=congrArg (fun v:V8=>v.2.2.2.2.2.2.2) (h.row j)
theorem Alike.ks {x y:WL rw_iiiiiiLu}(h:Alike x y){i k next e:Nat}{a:Int}(hk:KsOf x i k next a e):KsOf y i k next a e:=by
 have hl:=h.len
 induction hk with
 | @done i k next a hk ha=>exact @Ks.done _ ⟨y⟩ i k next a (by rw[h.kids i]; exact hk) (by show a≤toOf y i; rw[h.to' i]; exact ha)
 | @kid i k next e' e a hk hv hn ha h1 h2 ih1 ih2=>
  have ih1:KsOf y next 0 (next+1) (atOf y next) e':=by rw[h.at' next]; exact ih1
  have ih2:KsOf y i (k+1) e' (toOf y next) e:=by rw[h.to' next]; exact ih2
  exact @Ks.kid _ ⟨y⟩ i k next e' e a (by rw[h.kids i]; exact hk) (by rw[h.kids i]; exact hv) (by show next<y.l.length; rw[hl]; exact hn) (by show a≤atOf y next; rw[h.at' next]; exact ha) ih1 ih2
theorem Alike.dn {x y:WL rw_iiiiiiLu}(h:Alike x y){i s f1 f2:Int}(hd:DN x i s f1 f2):DN y i s f1 f2:=by
 obtain⟨k,e,h0,h1,h2,h3,h4,h5,h6,h7,h8,h9⟩:=hd
 have hl:=h.len
 refine⟨k,e,h0,by omega,h.tree h2,?_,by omega,h5,h6,by rw[h.at' k]; exact h7,by rw[h.to' k]; exact h8,fun j hj hb=>h9 j (by omega) (by rw[←h.mt' j]; exact hb)⟩
 rw[h.at' k]; exact h.ks h3
theorem Alike.par {x y:WL rw_iiiiiiLu}(h:Alike x y):@parL _ ⟨y⟩=@parL _ ⟨x⟩:=by
 have hl:=h.len
 have hN:∀ n L,@parN _ ⟨y⟩ n L=@parN _ ⟨x⟩ n L:=by
  intro n
  induction n with
  | zero=>intro L; rfl
  | succ n ih=>
   intro L
   show setK (@parN _ ⟨y⟩ n L) (n:Int) (@kd _ ⟨y⟩ n)=setK (@parN _ ⟨x⟩ n L) (n:Int) (@kd _ ⟨x⟩ n)
   rw[ih,h.kids n]
 show @parN _ ⟨y⟩ y.l.length ((List.replicate y.l.length (0:Int)).set 0 (-1))=@parN _ ⟨x⟩ x.l.length ((List.replicate x.l.length (0:Int)).set 0 (-1))
 rw[hl,hN]
theorem Alike.drop {x y:WL rw_iiiiiiLu}(h:Alike x y)(a b:Nat):((y.l.drop a).take b).map vw=((x.l.drop a).take b).map vw:=by
 rw[List.map_take,List.map_drop,h,←List.map_drop,←List.map_take]
theorem orM_vw {L M:List P8}(h:L.map vw=M.map vw):orM L=orM M:=by
 have e:∀ (L:List P8) (s:Int),L.foldl (fun s r=>bOr .u64 s (mt r)) s=(L.map vw).foldl (fun s v=>bOr .u64 s v.2.2.2.2.2.2.2) s:=by
  intro L
  induction L with
  | nil=>intro s; rfl
  | cons r L ih=>intro s; exact ih _
 unfold orM
 rw[e L 0,e M 0,h]
def KP [Cur](i k next e p:Nat)(c:Int):Prop:=(p=i∧∃ x,k≤x∧x<(kd i).length∧(kd i).getD x 0=c)∨(next≤p∧p<e∧c∈kd p)
theorem Ks.within [Cur]{i k next e p:Nat}{a c:Int}(h:Ks i k next a e)(hp:KP i k next e p c):(next:Int)≤c∧c<(e:Int):=by
 rcases hp with⟨rfl,x,h1,h2,rfl⟩ | ⟨h1,h2,h3⟩
 ·obtain⟨d,e1,e2,e3,_⟩:=h.kids x h1 h2
  omega
 ·obtain⟨f,g1,g2⟩:=h.cover p h1 h2
  obtain⟨x,hx,rfl⟩:=qjr_ 0 h3
  obtain⟨d,e1,e2,e3,_⟩:=g2.kids x (Nat.zero_le _) hx
  omega
theorem Ks.one [Cur]{i k next e:Nat}{a:Int}(h:Ks i k next a e):i<next→∀ (p q:Nat) (c:Int),KP i k next e p c→KP i k next e q c→p=q:=by
 induction h with
 | @done i k next a hk ha=>
  intro hi p q c h1 h2
  rcases h1 with⟨_,x,g1,g2,_⟩ | ⟨g1,g2,_⟩<;>omega
 | @kid i k next e' e a hk hv hn ha h1 h2 ih1 ih2=>
  intro hi p q c hp hq
  have l1:=h1.lt
  have l2:=h2.lt
  have sp:∀ p,KP i k next e p c→(p=i∧c=(next:Int))∨KP next 0 (next+1) e' p c∨KP i (k+1) e' e p c:=by
   intro p h
   rcases h with⟨rfl,x,g1,g2,g3⟩ | ⟨g1,g2,g3⟩
   ·rcases Nat.lt_or_ge k x with g | g
    ·exact .inr (.inr (.inl ⟨rfl,x,g,g2,g3⟩))
    ·obtain rfl:x=k:=by omega
     exact .inl ⟨rfl,by rw[←g3,hv]⟩
   ·rcases Nat.lt_or_ge p e' with g | g
    ·rcases Nat.lt_or_ge next p with k1 | k1
     ·exact .inr (.inl (.inr ⟨k1,g,g3⟩))
     ·obtain rfl:p=next:=by omega
      obtain⟨x,hx,hxc⟩:=qjr_ 0 g3
      exact .inr (.inl (.inl ⟨rfl,x,Nat.zero_le _,hx,hxc⟩))
    ·exact .inr (.inr (.inr ⟨g,g2,g3⟩))
  rcases sp p hp with⟨rfl,g1⟩ | g1 | g1<;>rcases sp q hq with⟨rfl,g2⟩ | g2 | g2
  ·rfl
  ·have:=h1.within g2; omega
  ·have:=h2.within g2; omega
  ·have:=h1.within g1; omega
  ·exact ih1 (by omega) p q c g1 g2
  ·have:=h1.within g1; have:=h2.within g2; omega
  ·have:=h2.within g1; omega
  ·have:=h1.within g2; have:=h2.within g1; omega
  ·exact ih2 (by omega) p q c g1 g2
theorem Ks.parIn [Cur]{i k next e:Nat}{a:Int}(h:Ks i k next a e):∀ j:Nat,next≤j→j<e→∃ p,KP i k next e p (j:Int):=by
 induction h with
 | done=>exact fun j h1 h2=>absurd h1 (by omega)
 | @kid i k next e' e a hk hv hn ha h1 h2 ih1 ih2=>
  intro j g1 g2
  have l1:=h1.lt
  have l2:=h2.lt
  rcases Nat.lt_or_ge j e' with g | g
  ·rcases Nat.lt_or_ge next j with g3 | g3
   ·obtain⟨p,hp⟩:=ih1 j g3 g
    rcases hp with⟨rfl,x,k1,k2,k3⟩ | ⟨k1,k2,k3⟩
    ·exact⟨p,.inr ⟨Nat.le_refl _,by omega,by rw[←k3]; exact qog_ k2⟩⟩
    ·exact⟨p,.inr ⟨by omega,by omega,k3⟩⟩
   ·obtain rfl:j=next:=by omega
    exact⟨i,.inl ⟨rfl,k,Nat.le_refl _,hk,hv⟩⟩
  ·obtain⟨p,hp⟩:=ih2 j g g2
   rcases hp with⟨rfl,x,k1,k2,k3⟩ | ⟨k1,k2,k3⟩
   ·exact⟨p,.inl ⟨rfl,x,by omega,k2,k3⟩⟩
   ·exact⟨p,.inr ⟨by omega,k2,k3⟩⟩
theorem kid_far [Cur](hT:Tree){i e k:Nat}(hi:i<Cur.x.l.length)(he:Ks i 0 (i+1) (atF i) e)(hel:e≤Cur.x.l.length)(hk:k<i){c:Int}(hc:c∈kd k):c≤(i:Int)∨(e:Int)≤c:=by
 obtain⟨d,rfl,h1,h2⟩:∃ d:Nat,c=d∧k<d∧d<Cur.x.l.length:=by
  obtain⟨q,hq,rfl⟩:=qjr_ 0 hc
  exact hT.kid (by omega) hq
 refine Classical.byContradiction fun hn=>?_
 obtain⟨p,hp⟩:=he.parIn d (by omega) (by omega)
 have hp':i≤p∧p<Cur.x.l.length∧(d:Int)∈kd p:=by
  rcases hp with⟨rfl,x,k1,k2,k3⟩ | ⟨k1,k2,k3⟩
  ·exact⟨Nat.le_refl _,hi,by rw[←k3]; exact qog_ k2⟩
  ·exact⟨by omega,by omega,k3⟩
 have main:∀ p:Nat,p<Cur.x.l.length→(d:Int)∈kd p→KP 0 0 1 Cur.x.l.length p (d:Int):=by
  intro p hp h
  rcases Nat.eq_zero_or_pos p with rfl | g
  ·obtain⟨x,hx,hxc⟩:=qjr_ 0 h
   exact .inl ⟨rfl,x,Nat.zero_le _,hx,hxc⟩
  ·exact .inr ⟨g,hp,h⟩
 have:=hT.ks.one Nat.zero_lt_one k p (d:Int) (main k (by omega) hc) (main p hp'.2.1 hp'.2.2)
 omega


section
variable [Cur]
theorem refPar2 {n i:Nat}{L:List Int}(hT:Tree)(hi:i<Cur.x.l.length)(hn:(kd i).length<n)(hL:L.length=Cur.x.l.length):qf2_ n Cur.x Cur.x.l.length (i:Int) (L,0)=some (setK L (i:Int) (kd i)):=by
 have hkl:=kd_le i
 obtain⟨r,rfl,h⟩:=hoare (B:=qbe_ n Cur.x Cur.x.l.length (i:Int)) (σ:=List Int) (fun s q=>(s,q)) (fun q s=>s=setK L (i:Int) ((kd i).take q)) (fun r=>r=setK L (i:Int) (kd i)) (kd i).length
  (fun q s hq hI=>by
   subst hI
   obtain⟨c,h1,h2,h3⟩:=hT.kid hi hq
   unfold qbe_
   dsimp only
   rw[if_pos (by omega)]
   simp only[Option.bind_some,Int.toNat_natCast]
   rw[if_pos (show (q:Int)<((((Cur.x.l.getD i (0,0,0,0,0,0,nl0,0)).2.2.2.2.2.2.1.l.length:Nat)):Int) from Int.ofNat_lt.2 hq),if_pos (show (0:Int)≤(q:Int)∧(q:Int)<((((Cur.x.l.getD i (0,0,0,0,0,0,nl0,0)).2.2.2.2.2.2.1.l.length:Nat)):Int) from⟨Int.natCast_nonneg _,Int.ofNat_lt.2 hq⟩),if_pos (show q<(Cur.x.l.getD i (0,0,0,0,0,0,nl0,0)).2.2.2.2.2.2.1.l.length from hq),show (Cur.x.l.getD i (0,0,0,0,0,0,nl0,0)).2.2.2.2.2.2.1.l.getD q 0=(c:Int) from h1]
   rw[if_pos (by omega)]
   simp only[Int.toNat_natCast]
   rw[if_pos (by rw[setK_len]; omega),w64_inc' (by omega)]
   refine .inl ⟨_,?_,rfl⟩
   rw[take_snoc hq,h1,setK_snoc,Int.toNat_natCast])
  (fun s hI=>by
   subst hI
   unfold qbe_
   dsimp only
   rw[if_pos (by omega)]
   simp only[Option.bind_some,Int.toNat_natCast]
   rw[if_neg (show ¬ ((kd i).length:Int)<((((Cur.x.l.getD i (0,0,0,0,0,0,nl0,0)).2.2.2.2.2.2.1.l.length:Nat)):Int) from Int.lt_irrefl _)]
   exact⟨_,by rw[List.take_length],rfl⟩) n 0 L (Nat.zero_le _) rfl (by omega)
 exact h
theorem refPar {n K:Nat}(hT:Tree)(hK:∀ j,(kd j).length≤K)(hn:Cur.x.l.length+K<n)(hc:qe_ n Cur.x=some 0):∃ k:NL,qbu_ n Cur.x=some k∧k.l=parL:=by
 have hmax:=hT.max
 have hpos:=hT.pos
 obtain⟨r,rfl,h⟩:=hoare (B:=qbf_ n Cur.x Cur.x.l.length) (σ:=List Int) (fun s q=>(s,q)) (fun q s=>s=parN q par0) (fun r=>r=parL) Cur.x.l.length
  (fun q s hq hI=>by
   subst hI
   have hk:=hK q
   unfold qbf_
   dsimp only
   rw[if_pos (by omega),refPar2 hT hq (by omega) (by rw[qtv_]; unfold par0; rw[List.length_set,List.length_replicate])]
   simp only[Option.bind_some]
   rw[w64_inc (by omega)]
   exact .inl ⟨_,rfl,rfl⟩)
  (fun s hI=>by
   subst hI
   unfold qbf_
   dsimp only
   rw[if_neg (by omega)]
   exact⟨_,rfl,rfl⟩) n 0 par0 (Nat.zero_le _) rfl (by omega)
 have h:qf3_ n Cur.x Cur.x.l.length ((List.replicate Cur.x.l.length (0:Int)).set ((0:Int)).toNat (-1),0)=some parL:=h
 unfold qbu_
 rw[hc]
 simp only[Option.bind_some]
 rw[if_pos trivial,if_pos (by omega)]
 simp only[Int.toNat_natCast]
 rw[if_pos (by omega),if_pos (by omega),if_pos (by rw[List.length_replicate]; exact hpos),h]
 simp only[Option.bind_some]
 rw[if_pos parL_len.symm,dif_pos (by rw[parL_len]; omega)]
 exact⟨_,rfl,rfl⟩
theorem par_root (hT:Tree):parL.getD 0 0=-1:=by
 have hpos:=hT.pos
 have h0:par0.length=Cur.x.l.length:=by unfold par0; rw[List.length_set,List.length_replicate]
 have main:∀ n,n≤Cur.x.l.length→(parN n par0).getD 0 0=-1:=by
  intro n
  induction n with
  | zero=>
   intro _
   show par0.getD 0 0=-1
   unfold par0
   rw[qnh_ (by rw[List.length_replicate]; omega),if_pos rfl]
  | succ n ih=>
   intro hn
   have hk:=kd_nat hT (n:=n) (by omega)
   show (setK (parN n par0) (n:Int) (kd n)).getD 0 0=-1
   rw[setK_get (fun k h=>by obtain⟨c,rfl,_⟩:=hk k h; exact Int.natCast_nonneg _) (by rw[qtv_]; omega),if_neg (fun h=>by obtain⟨c,h1,h2⟩:=hk _ h; omega)]
   exact ih (by omega)
 exact main _ (Nat.le_refl _)
end
theorem rpar_ok {n:Nat}{x:WL rw_iiiiiiLu}(hT:TreeOf x)(hL:x.l.length≤500)(hn:2000<n):∃ y,qbu_ n x=some y∧y.l=@parL _ ⟨x⟩:=
 @refPar _ ⟨x⟩ n x.l.length hT (fun j=>@Tree.few _ ⟨x⟩ hT j) (by show x.l.length+_<n; omega) (show qe_ n x=some 0 from qwj_ hT (by omega))

def gtI (i b v:Int):Int:=if v > i then w64 (v+b) else v
theorem putIn {n j:Nat}{x o:WL rw_iiiiiiLu}{i e b c1 c2 c3 c4 c5 c6 c7:Int}{acc:List P8}(hj:j<x.l.length)(hk:(x.l.getD j d8).2.2.2.2.2.2.1.l.length≤1000000)(hn:(x.l.getD j d8).2.2.2.2.2.2.1.l.length<n) :
  ∃ k,qfy_ n x i o e b (j:Int) c1 c2 c3 c4 c5 c6 c7 (acc,[],0)=some (acc,k)∧k.l=(x.l.getD j d8).2.2.2.2.2.2.1.l.map (gtI i b):=by
 obtain⟨q,⟨k,rfl,hq⟩,q2⟩:=hoare (B:=qcf_ n x i o e b (j:Int) c1 c2 c3 c4 c5 c6 c7) (σ:=List Int) (fun L j=>(acc,L,j)) (fun q L=>L=((x.l.getD j d8).2.2.2.2.2.2.1.l.take q).map (gtI i b)) (fun q=>∃ k:NL,q=(acc,k)∧k.l=(x.l.getD j d8).2.2.2.2.2.2.1.l.map (gtI i b)) (x.l.getD j d8).2.2.2.2.2.2.1.l.length
  (fun q L hq hL=>by
   refine .inl ⟨L ++ [gtI i b ((x.l.getD j d8).2.2.2.2.2.2.1.l.getD q 0)],?_,?_⟩
   ·rw[hL,takeS hq,List.map_append]; rfl
   ·have hlen:L.length=q:=by rw[hL,List.length_map,List.length_take]; omega
    have hq:q<(x.l.getD j (0,0,0,0,0,0,nl0,0)).2.2.2.2.2.2.1.l.length:=hq
    have hk:(x.l.getD j (0,0,0,0,0,0,nl0,0)).2.2.2.2.2.2.1.l.length≤1000000:=hk
    unfold qcf_
    dsimp only
    have hg:gtI i b ((x.l.getD j d8).2.2.2.2.2.2.1.l.getD q 0)=if (x.l.getD j (0,0,0,0,0,0,nl0,0)).2.2.2.2.2.2.1.l.getD q 0 > i then w64 ((x.l.getD j (0,0,0,0,0,0,nl0,0)).2.2.2.2.2.2.1.l.getD q 0+b) else (x.l.getD j (0,0,0,0,0,0,nl0,0)).2.2.2.2.2.2.1.l.getD q 0:=rfl
    rw[hg]
    by_cases c:(x.l.getD j (0,0,0,0,0,0,nl0,0)).2.2.2.2.2.2.1.l.getD q 0 > i<;>cases acc<;>cases L<;>(
      dsimp only
      rw[if_pos (by omega),Int.toNat_natCast]
      try dsimp only[Option.bind_some]
      rw[if_pos (by omega),if_pos (by omega),Int.toNat_natCast,if_pos hq]
      try dsimp only[Option.bind_some]
      first | rw[if_pos c,if_pos c] | rw[if_neg c,if_neg c]
      try rw[if_pos (by omega)]
      rw[w64_inc (by omega)]
      try rfl))
  (fun L hL=>by
   rw[List.take_length] at hL
   have hk:(x.l.getD j (0,0,0,0,0,0,nl0,0)).2.2.2.2.2.2.1.l.length≤1000000:=hk
   have hlen:L.length=(x.l.getD j (0,0,0,0,0,0,nl0,0)).2.2.2.2.2.2.1.l.length:=by rw[hL,List.length_map]; rfl
   unfold qcf_
   dsimp only
   cases acc<;>cases L<;>(
    dsimp only
    rw[if_pos (by omega),Int.toNat_natCast]
    try dsimp only[Option.bind_some]
    rw[if_neg (by show ¬ (((x.l.getD j (0,0,0,0,0,0,nl0,0)).2.2.2.2.2.2.1.l.length:Nat):Int)<(((x.l.getD j (0,0,0,0,0,0,nl0,0)).2.2.2.2.2.2.1.l.length:Nat):Int); omega)]
    try rw[dif_pos (by omega)]
    exact⟨_,⟨_,rfl,hL⟩,rfl⟩))
  n 0 [] (Nat.zero_le _) (by simp) (by omega)
 exact⟨k,q2,hq⟩
theorem take_map {β:Type}{g:P8→β}{L:List P8}{i:Nat}(hi:i≤L.length):(List.range i).map (fun j=>g (L.getD j d8))=(L.take i).map g:=by
 have h:=qkg_ (f:=g) (d:=d8) (l:=L.take i)
 rw[List.length_take,Nat.min_eq_left hi] at h
 rw[←h]
 exact List.map_congr_left fun j hj=>by rw[qxa_ (List.mem_range.1 hj)]
theorem rput1 {n i:Nat}{x o:WL rw_iiiiiiLu}{e b:Int}(hi:i≤x.l.length)(hk:FewK n x.l)(hx:x.l.length≤1000000)(hn:x.l.length<n) :
  ∃ M,qhh_ n x (i:Int) o e b ([],0)=some M∧M.map vw=(x.l.take i).map fun r=>mvK (gtI i b) (vw r):=by
 obtain⟨M,h,hM⟩:=q0h_ (B:=qch_ n x (i:Int) o e b) vw (fun j=>mvK (gtI i b) (vw (x.l.getD j d8))) i 0
  (fun j acc hj hacc=>by
   obtain⟨hf1,hf2⟩:=fewD hk (show j<x.l.length by omega)
   obtain⟨k,g1,g2⟩:=putIn (n:=n) (i:=(i:Int)) (o:=o) (e:=e) (b:=b) (c1:=(x.l.getD j d8).1) (c2:=(x.l.getD j d8).2.1) (c3:=(x.l.getD j d8).2.2.1) (c4:=(x.l.getD j d8).2.2.2.1) (c5:=(x.l.getD j d8).2.2.2.2.1) (c6:=(x.l.getD j d8).2.2.2.2.2.1) (c7:=(x.l.getD j d8).2.2.2.2.2.2.2) (acc:=acc) (show j<x.l.length by omega) hf1 hf2
   refine⟨rk (x.l.getD j d8) k,vw_rk g2,?_⟩
   unfold qch_
   dsimp only
   cases acc with
   | nil=>
    dsimp only
    rw[if_pos (by omega),if_pos (by omega),Int.toNat_natCast]
    try dsimp only[Option.bind_some]
    erw [g1]
    try dsimp only[Option.bind_some]
    rw[w64_inc (by omega)]
    rfl
   | cons a t=>
    dsimp only
    rw[if_pos (by omega),if_pos (by omega),Int.toNat_natCast]
    try dsimp only[Option.bind_some]
    erw [g1]
    try dsimp only[Option.bind_some]
    rw[if_pos (by omega),w64_inc (by omega)]
    rfl)
  (fun acc=>by
   unfold qch_
   dsimp only
   cases acc with
   | nil=>dsimp only; rw[if_neg (by omega)]
   | cons a t=>dsimp only; rw[if_neg (by omega)]) n [] (Nat.zero_le _) (by omega)
 rw[List.nil_append] at h
 exact⟨M,h,by rw[hM]; exact take_map (g:=fun r=>mvK (gtI i b) (vw r)) hi⟩
theorem mv_congr {f g:Int→Int}{r:P8}(h:∀ k∈r.2.2.2.2.2.2.1.l,f k=g k):mvK f (vw r)=mvK g (vw r):=by
 have:r.2.2.2.2.2.2.1.l.map f=r.2.2.2.2.2.2.1.l.map g:=List.map_congr_left h
 show (_,_,_,_,_,_,r.2.2.2.2.2.2.1.l.map f,_)=(_,_,_,_,_,_,r.2.2.2.2.2.2.1.l.map g,_)
 rw[this]
theorem fitR_iff {p q:P8}:fitR p q=true ↔ p.1=q.1∧p.2.1=q.2.1∧p.2.2.1=q.2.2.1∧p.2.2.2.2.1=q.2.2.2.2.1:=by
 unfold fitR
 simp only[Bool.and_eq_true,beq_iff_eq,and_assoc]
theorem rput_ok {n i e:Nat}{x o:WL rw_iiiiiiLu}(hT:TreeOf x)(hO:TreeOf o)(hx:x.l.length≤500)(ho:o.l.length≤500)(hn:2000<n)(hi:i<x.l.length)(he:KsOf x i 0 (i+1) (atOf x i) e)(hel:e≤x.l.length)(hf:fitR (x.l.getD i d8) (o.l.getD 0 d8)=true) :
  ∃ M,qci_ n x (i:Int) o=some (.inr M)∧M.map vw=(x.l.take i).map (fun r=>mvK (aft e (o.l.length-(e-i))) (vw r))++o.l.map (fun r=>mvK (ins i) (vw r))++(x.l.drop e).map (fun r=>mvK (aft e (o.l.length-(e-i))) (vw r)):=by
 have hlt:i+1≤e:=@Ks.lt _ ⟨x⟩ _ _ _ _ _ he
 have hpo:0<o.l.length:=@Tree.pos _ ⟨o⟩ hO
 have kx:=@few_of _ ⟨x⟩ hT n (by show x.l.length<n; omega)
 have ko:=@few_of _ ⟨o⟩ hO n (by show o.l.length<n; omega)
 have hend:qd_ n x (i:Int)=some (e:Int):=@endOf _ ⟨x⟩ x.l.length i e (fun j=>@Tree.few _ ⟨x⟩ hT j) he hi n (by show x.l.length-i+x.l.length+10<n; omega)
 obtain⟨f1,f2,f3,f4⟩:=fitR_iff.1 hf
 unfold qci_
 rw[qwj_ hT (by omega)]
 try dsimp only[Option.bind_some]
 rw[if_pos rfl,qwj_ hO (by omega)]
 try dsimp only[Option.bind_some]
 rw[if_pos rfl,if_neg (by omega),if_neg (by omega),if_pos (by omega),Int.toNat_natCast]
 try dsimp only[Option.bind_some]
 rw[if_pos (by omega)]
 try dsimp only[Option.bind_some]
 erw [if_pos f1,if_pos f2,if_pos f3,if_pos f4,hend]
 try dsimp only[Option.bind_some]
 rw[qy6_ (x:=(e:Int)-i) (by omega) (by omega),qy6_ (x:=(o.l.length:Int)-_) (by omega) (by omega),qy6_ (x:=(x.l.length:Int)+_) (by omega) (by omega)]
 rw[if_neg (by omega)]
 obtain⟨M1,g1,e1⟩:=rput1 (n:=n) (i:=i) (x:=x) (o:=o) (e:=(e:Int)) (b:=(o.l.length:Int)-((e:Int)-i)) (by omega) kx (by omega) (by omega)
 rw[g1]
 try dsimp only[Option.bind_some]
 obtain⟨M2,g2,e2⟩:=moved_ok (n:=n) (x:=o) (by_:=(i:Int)) hpo ko (by omega) (by omega)
 have l3:(wlSub rwf_iiiiiiLu x ((e:Nat):Int).toNat x.l.length (by omega)).l=x.l.drop e:=by
  show (x.l.drop ((e:Nat):Int).toNat).take (x.l.length-((e:Nat):Int).toNat)=_
  rw[Int.toNat_natCast,List.take_of_length_le (by simp)]
 obtain⟨M3,g3,e3⟩:=moved_s (n:=n) (x:=wlSub rwf_iiiiiiLu x ((e:Nat):Int).toNat x.l.length (by omega)) (by_:=(o.l.length:Int)-((e:Int)-i)) (by rw[l3]; exact fun r hr=>kx r (List.mem_of_mem_drop hr)) (by rw[l3]; simp; omega) (by rw[l3]; simp; omega)
 rw[l3] at e3
 have v1:M1.map vw=(x.l.take i).map fun r=>mvK (aft e (o.l.length-(e-i))) (vw r):=by
  rw[e1]
  refine List.map_congr_left fun r hr=>mv_congr fun k hk=>?_
  obtain⟨j,hj,rfl⟩:=qjr_ d8 hr
  have hj':j<i∧j<x.l.length:=by rw[List.length_take] at hj; omega
  rw[qxa_ hj'.1] at hk
  have:=@kid_far _ ⟨x⟩ hT i e j hi he hel hj'.1 k hk
  unfold gtI aft
  rcases this with h | h
  ·rw[if_neg (by omega),if_neg (by omega)]
  ·rw[if_pos (by omega),if_pos (by omega)]
 have v3:M3.map vw=(x.l.drop e).map fun r=>mvK (aft e (o.l.length-(e-i))) (vw r):=by
  rw[e3]
  refine List.map_congr_left fun r hr=>mv_congr fun k hk=>?_
  obtain⟨j,hj,rfl⟩:=qjr_ d8 hr
  rw[List.length_drop] at hj
  rw[q1s_] at hk
  obtain⟨q,hq,rfl⟩:=qjr_ 0 hk
  obtain⟨c,h1,h2,h3⟩:=@Tree.kid _ ⟨x⟩ hT (e+j) q (by show e+j<x.l.length; omega) hq
  have h1:(x.l.getD (e+j) d8).2.2.2.2.2.2.1.l.getD q 0=(c:Int):=h1
  rw[h1]
  unfold ins aft
  rw[if_pos (by omega)]
 have n1:M1.length=i:=by have:=congrArg List.length v1; simp at this; omega
 have n2:M2.length=o.l.length:=by have:=congrArg List.length e2; simpa using this
 have n3:M3.length=x.l.length-e:=by have:=congrArg List.length v3; simpa using this
 have hv:(M1++M2++M3).map vw=(x.l.take i).map (fun r=>mvK (aft e (o.l.length-(e-i))) (vw r))++o.l.map (fun r=>mvK (ins i) (vw r))++(x.l.drop e).map (fun r=>mvK (aft e (o.l.length-(e-i))) (vw r)):=by
  rw[List.map_append,List.map_append,v1,e2,v3]
 refine⟨M1++M2++M3,?_,hv⟩
 rw[g2]
 cases M1<;>cases M3<;>(
  try simp only[List.length_nil,List.length_cons] at n1 n3
  dsimp only
  rw[if_pos (by omega),if_pos (by (try simp only[List.length_nil,List.length_cons]); omega),if_pos (by omega),dif_pos (show ((e:Nat):Int).toNat≤x.l.length∧x.l.length≤x.l.length by omega),g3]
  dsimp only[toS]
  (try rw[if_pos (show 0<_ by simp)])
  (try rw[if_pos (by (try simp only[List.length_append,List.length_nil,List.length_cons]); omega)])
  (try simp))


abbrev J5:=Int×Int×Int×Int×Int
open Classical in
def dsOf (x:WL rw_iiiiiiLu)(i:Int)(L:List J5):List Int:=(L.filter fun r=>decide (DN x i r.1 r.2.1 r.2.2.1)).map fun r=>r.1
theorem qy7_ {x:WL rw_iiiiiiLu}{i:Int}{L:List J5}:(dsOf x i L).length≤L.length:=by
 unfold dsOf; rw[List.length_map]; exact List.length_filter_le ..
theorem dsOf_pos {x:WL rw_iiiiiiLu}{i:Int}{L:List J5}{r:J5}(h:DN x i r.1 r.2.1 r.2.2.1):dsOf x i (L ++ [r])=dsOf x i L ++ [r.1]:=by
 unfold dsOf; simp[List.filter_append,h]
theorem dsOf_neg {x:WL rw_iiiiiiLu}{i:Int}{L:List J5}{r:J5}(h:¬ DN x i r.1 r.2.1 r.2.2.1):dsOf x i (L ++ [r])=dsOf x i L:=by
 unfold dsOf; simp[List.filter_append,h]
theorem takeG {α:Type}{d:α}{L:List α}{q:Nat}(h:q<L.length):L.take (q+1)=L.take q ++ [L.getD q d]:=by
 rw[List.take_add_one,List.getD_eq_getElem?_getD,List.getElem?_eq_getElem h]; rfl
theorem pjobs {n K:Nat}{i:Int}{x:WL rw_iiiiiiLu}{w:WL rw_iiiii}{M:List P8}{v:Int}(hU:RngU x.l)(hK:∀ j,(@kd _ ⟨x⟩ j).length≤K)(hx:x.l.length≤500)(hn:2000+K<n)(hw:w.l.length≤40) :
  qhr_ n x i w (w.l.length:Int) (M,[],v,0)=some (M,dsOf x i w.l,lefts v (dsOf x i w.l)):=by
 obtain⟨q,rfl,q2⟩:=hoare (B:=qc1_ n x i w (w.l.length:Int)) (σ:=List Int) (fun ds j=>(M,ds,lefts v ds,j)) (fun j ds=>ds=dsOf x i (w.l.take j)) (fun q=>q=(M,dsOf x i w.l,lefts v (dsOf x i w.l))) w.l.length
  (fun j ds hj hI=>by
   obtain⟨b,hb,-,hb2⟩:=done2 (n:=n) (i:=i) (s:=(w.l.getD j (0,0,0,0,0)).1) (f1:=(w.l.getD j (0,0,0,0,0)).2.1) (f2:=(w.l.getD j (0,0,0,0,0)).2.2.1) (f3:=(w.l.getD j (0,0,0,0,0)).2.2.2.1) (f4:=(w.l.getD j (0,0,0,0,0)).2.2.2.2) hU hK hx hn
   have hw':=w64_inc (i:=j) (by omega)
   have hl:ds.length≤40:=by
    have:=qy7_ (x:=x) (i:=i) (L:=w.l.take j)
    rw[List.length_take] at this
    rw[hI]; omega
   have ht:=takeG (d:=((0,0,0,0,0):J5)) hj
   cases b with
   | false=>
    refine .inl ⟨ds,by rw[ht,dsOf_neg (fun h=>by have:=hb2.2 h; cases this)]; exact hI,?_⟩
    unfold qc1_
    cases M<;>cases ds<;>(
     dsimp only
     rw[if_pos (by omega),if_pos (by omega),Int.toNat_natCast]
     try dsimp only[Option.bind_some]
     rw[hb]
     try dsimp only[Option.bind_some]
     rw[if_neg (by decide),hw'])
   | true=>
    have hd:=hb2.1 rfl
    have s1:0≤(w.l.getD j (0,0,0,0,0)).1:=by obtain⟨_,_,_,_,_,_,_,h,_⟩:=hd; exact h.1
    refine .inl ⟨ds ++ [(w.l.getD j (0,0,0,0,0)).1],by rw[ht,dsOf_pos hd,←hI],?_⟩
    unfold qc1_
    rw[lefts_snoc]
    cases M<;>cases ds<;>(
      dsimp only
      rw[if_pos (by omega),if_pos (by omega),Int.toNat_natCast]
      try dsimp only[Option.bind_some]
      rw[hb]
      try dsimp only[Option.bind_some]
      rw[if_pos rfl]
      try rw[if_pos (by omega)]
      try rw[if_pos s1]
      rw[hw']
      try rfl))
  (fun ds hI=>⟨(M,ds,lefts v ds),by rw[hI,List.take_length],by unfold qc1_; cases M<;>cases ds<;>(dsimp only; rw[if_neg (by omega)])⟩)
  n 0 [] (Nat.zero_le _) (by simp[dsOf]) (by omega)
 exact q2
theorem rjobs {n K:Nat}{i:Int}{x o:WL rw_iiiiiiLu}{w:WL rw_iiiii}{v:Int}(hU:RngU x.l)(hK:∀ j,(@kd _ ⟨x⟩ j).length≤K)(hx:x.l.length≤500)(hn:2000+K<n)(hw:w.l.length≤40) :
  qgb_ n x i o w (v,[],0)=some (lefts v (dsOf x i w.l),dsOf x i w.l):=by
 obtain⟨q,rfl,q2⟩:=hoare (B:=q8_ n x i o w) (σ:=List Int) (fun ds j=>(lefts v ds,ds,j)) (fun j ds=>ds=dsOf x i (w.l.take j)) (fun q=>q=(lefts v (dsOf x i w.l),dsOf x i w.l)) w.l.length
  (fun j ds hj hI=>by
   obtain⟨b,-,hb,hb2⟩:=done2 (n:=n) (i:=i) (s:=(w.l.getD j (0,0,0,0,0)).1) (f1:=(w.l.getD j (0,0,0,0,0)).2.1) (f2:=(w.l.getD j (0,0,0,0,0)).2.2.1) (f3:=(w.l.getD j (0,0,0,0,0)).2.2.2.1) (f4:=(w.l.getD j (0,0,0,0,0)).2.2.2.2) hU hK hx hn
   have hw':=w64_inc (i:=j) (by omega)
   have hl:ds.length≤40:=by
    have:=qy7_ (x:=x) (i:=i) (L:=w.l.take j)
    rw[List.length_take] at this
    rw[hI]; omega
   have ht:=takeG (d:=((0,0,0,0,0):J5)) hj
   cases b with
   | false=>
    refine .inl ⟨ds,by rw[ht,dsOf_neg (fun h=>by have:=hb2.2 h; cases this)]; exact hI,?_⟩
    unfold q8_
    cases ds<;>(
     dsimp only
     rw[if_pos (by omega),if_pos (by omega),Int.toNat_natCast]
     try dsimp only[Option.bind_some]
     rw[hb]
     try dsimp only[Option.bind_some]
     rw[if_neg (by decide),hw'])
   | true=>
    have hd:=hb2.1 rfl
    have s1:slot (w.l.getD j (0,0,0,0,0)).1:=by obtain⟨_,_,_,_,_,_,_,h,_⟩:=hd; exact h
    refine .inl ⟨ds ++ [(w.l.getD j (0,0,0,0,0)).1],by rw[ht,dsOf_pos hd,←hI],?_⟩
    unfold q8_
    rw[lefts_snoc]
    cases ds<;>(
      dsimp only
      rw[if_pos (by omega),if_pos (by omega),Int.toNat_natCast]
      try dsimp only[Option.bind_some]
      rw[hb]
      try dsimp only[Option.bind_some]
      rw[if_pos rfl,wr s1]
      try rw[if_pos (by omega)]
      try rw[if_pos s1.1]
      rw[hw']
      try rfl))
  (fun ds hI=>⟨(lefts v ds,ds),by rw[hI,List.take_length],by unfold q8_; cases ds<;>(dsimp only; rw[if_neg (by omega)])⟩)
  n 0 [] (Nat.zero_le _) (by simp[dsOf]) (by omega)
 exact q2
theorem orM_mt {L M:List P8}(h:L.map mt=M.map mt):orM L=orM M:=by
 have e:∀ (L:List P8) (s:Int),L.foldl (fun s r=>bOr .u64 s (mt r)) s=(L.map mt).foldl (fun s v=>bOr .u64 s v) s:=by
  intro L
  induction L with
  | nil=>intro s; rfl
  | cons r L ih=>intro s; exact ih _
 unfold orM
 rw[e L 0,e M 0,h]
theorem rbits {n:Nat}{z:WL rw_iiiiiiLu}(hL:z.l.length≤1000000)(hn:z.l.length<n):qdi_ n z=some (orM z.l):=by
 have h:=foldLoop (B:=qb3_ n z) (fun s j=>bOr .u64 s (mt (z.l.getD j d8))) z.l.length
  (fun i s hi=>by
   unfold qb3_
   dsimp only
   rw[if_pos (by omega),if_pos (by omega),Int.toNat_natCast]
   dsimp only[Option.bind_some]
   rw[w64_inc (by omega)]
   rfl)
  (fun s=>by
   unfold qb3_
   dsimp only
   rw[if_neg (by omega)]) n 0 (by omega)
 unfold qdi_ qg1_
 rw[h,q0i_ (fun s r=>bOr .u64 s (mt r))]
 rfl
def orV (v:V8)(b:Int):V8:=(v.1,v.2.1,v.2.2.1,v.2.2.2.1,v.2.2.2.2.1,v.2.2.2.2.2.1,v.2.2.2.2.2.2.1,bOr .u64 v.2.2.2.2.2.2.2 b)
theorem getD_vw {M:List P8}{p:Nat}:vw (M.getD p d8)=(M.map vw).getD p (vw d8):=by
 rw[List.getD_eq_getElem?_getD,List.getD_eq_getElem?_getD,List.getElem?_map]
 cases M[p]?<;>rfl
theorem map_or {M:List P8}{p:Nat}{b:Int}:(M.set p (orR (M.getD p d8) b)).map vw=(M.map vw).set p (orV ((M.map vw).getD p (vw d8)) b):=by
 rw[List.map_set,←getD_vw]; rfl
def vS (X O:List V8)(N:Int)(i e:Nat):List V8:=(X.take i).map (mvK (aft e (N-((e:Int)-(i:Int)))))++O.map (mvK (ins i))++(X.drop e).map (mvK (aft e (N-((e:Int)-(i:Int)))))
theorem map_vS {x o:WL rw_iiiiiiLu}{i e:Nat}:(x.l.take i).map (fun r=>mvK (aft e (o.l.length-(e-i))) (vw r))++o.l.map (fun r=>mvK (ins i) (vw r))++(x.l.drop e).map (fun r=>mvK (aft e (o.l.length-(e-i))) (vw r))=vS (x.l.map vw) (o.l.map vw) o.l.length i e:=by
 unfold vS
 rw[←List.map_take,←List.map_drop,List.map_map,List.map_map,List.map_map]
 rfl
def vR (P:List V8)(i:Nat)(p b:Int):List V8:=if 0<i then P.set p.toNat (orV (P.getD p.toNat (vw d8)) b) else P
theorem pspl {n i e:Nat}{x o:WL rw_iiiiiiLu}{w:WL rw_iiiii}(hU:RngU x.l)(hT:TreeOf x)(hO:TreeOf o)(hx:x.l.length≤500)(ho:o.l.length≤500)(hn:3000<n)(hi:i<x.l.length)(he:KsOf x i 0 (i+1) (atOf x i) e)(hel:e≤x.l.length)(hf:fitR (x.l.getD i d8) (o.l.getD 0 d8)=true)(hw:w.l.length≤40) :
  ∃ (y:WL rw_iiiiiiLu) (d:NL),qda_ n x (i:Int) o w=some (y,d,0)∧y.l.map vw=vR (vS (x.l.map vw) (o.l.map vw) o.l.length i e) i ((@parL _ ⟨x⟩).getD i 0) (lefts (orM ((x.l.drop i).take (e-i))) (dsOf x i w.l))∧d.l=dsOf x i w.l:=by
 have hpo:0<o.l.length:=@Tree.pos _ ⟨o⟩ hO
 have hlt:=@Ks.lt _ ⟨x⟩ _ _ _ _ _ he
 obtain⟨M,hP,hM⟩:=put_ok hT hO hx ho (by omega:2000<n) hi he hel hf
 rw[map_vS] at hM
 have hlen:M.length=i+o.l.length+(x.l.length-e):=by
  have:=congrArg List.length hM
  simp[vS] at this
  omega
 have hg:=qxb_ (n:=n) (a:=i) (b:=e) (x:=x) (by omega) hel (by omega) (by omega)
 have hj:=pjobs (n:=n) (K:=x.l.length) (i:=(i:Int)) (w:=w) (M:=M) (v:=orM ((x.l.drop i).take (e-i))) hU (fun j=>@Tree.few _ ⟨x⟩ hT j) hx (by omega) hw
 have hdl:=qy7_ (x:=x) (i:=(i:Int)) (L:=w.l)
 unfold qda_
 rw[chk hT (by omega)]
 try dsimp only[Option.bind_some]
 rw[if_pos rfl,chk hO (by omega)]
 try dsimp only[Option.bind_some]
 rw[if_pos rfl,sfits_ok hi hpo,hf]
 try dsimp only[Option.bind_some]
 rw[if_pos rfl,hP]
 generalize dsOf x (i:Int) w.l=ds at hj hdl ⊢
 cases M with
 | nil=>simp at hlen; omega
 | cons a t=>
  dsimp only
  rw[tEnd hT (by omega) (by omega) he hi hel]
  try dsimp only[Option.bind_some]
  unfold qdx_
  try dsimp only[Option.bind_some]
  rw[hg]
  try dsimp only[Option.bind_some]
  rw[hj]
  try dsimp only[Option.bind_some]
  by_cases h0:0<i
  ·obtain⟨z,hz,hzl⟩:=par_ok hT (by omega:x.l.length≤500) (by omega:2000<n)
   obtain⟨p,hp,hpi⟩:=par_lt hT h0 hi
   have hpl:(@parL _ ⟨x⟩).length=x.l.length:=@parL_len _ ⟨x⟩
   have hv:∀ b,((a::t).set p (orR ((a::t).getD p d8) b)).map vw=vR (vS (x.l.map vw) (o.l.map vw) o.l.length i e) i ((@parL _ ⟨x⟩).getD i 0) b:=fun b=>by
    unfold vR
    rw[if_pos h0,hp,Int.toNat_natCast,←hM]
    exact map_or
   cases ds with
   | nil=>
    dsimp only
    rw[if_pos (by omega),hz]
    try dsimp only[Option.bind_some]
    rw[hzl,hpl,if_pos (by omega),Int.toNat_natCast,if_pos hi]
    have hp':=hp
    generalize (@parL _ ⟨x⟩).getD i 0=P at hp' hv ⊢
    subst hp'
    try dsimp only[Option.bind_some]
    rw[if_pos (by omega),Int.toNat_natCast]
    try dsimp only[Option.bind_some]
    rw[if_pos (by simp),dif_pos (by rw[List.length_set]; omega)]
    exact⟨_,nl0,rfl,hv _,rfl⟩
   | cons b u=>
    dsimp only
    rw[if_pos (by omega),hz]
    try dsimp only[Option.bind_some]
    rw[hzl,hpl,if_pos (by omega),Int.toNat_natCast,if_pos hi]
    have hp':=hp
    generalize (@parL _ ⟨x⟩).getD i 0=P at hp' hv ⊢
    subst hp'
    try dsimp only[Option.bind_some]
    rw[if_pos (by omega),Int.toNat_natCast]
    try dsimp only[Option.bind_some]
    rw[dif_pos (by omega),if_pos (by simp),dif_pos (by rw[List.length_set]; omega)]
    exact⟨_,frzL (b::u) (by omega),rfl,hv _,rfl⟩
  ·have hv:∀ q b,(a::t).map vw=vR (vS (x.l.map vw) (o.l.map vw) o.l.length i e) i q b:=fun q b=>by
    unfold vR
    rw[if_neg h0]
    exact hM
   cases ds with
   | nil=>
    dsimp only
    rw[if_neg (by omega),dif_pos (by omega)]
    exact⟨_,nl0,rfl,hv _ _,rfl⟩
   | cons b u=>
    dsimp only
    rw[if_neg (by omega),dif_pos (by omega),dif_pos (by omega)]
    exact⟨_,frzL (b::u) (by omega),rfl,hv _ _,rfl⟩


def FT (x:WL rw_iiiiiiLu)(i:Int)(o:WL rw_iiiiiiLu):Prop:=∃ k:Nat,i=k∧k<x.l.length∧fitR (x.l.getD k d8) (o.l.getD 0 d8)=true
theorem sfits2 {n:Nat}{x o:WL rw_iiiiiiLu}{i:Int}(ho:0<o.l.length):∃ b,qfu_ n x i o=some b∧(b=true ↔ FT x i o):=by
 by_cases h:∃ k:Nat,i=k∧k<x.l.length
 ·obtain⟨k,rfl,hk⟩:=h
  refine⟨_,sfits_ok hk ho,fun h=>⟨k,rfl,hk,h⟩,fun h=>?_⟩
  obtain⟨q,h1,h2,h3⟩:=h
  obtain rfl:k=q:=by omega
  exact h3
 ·refine⟨false,?_,(fun h=>by cases h),fun⟨k,h1,h2,_⟩=>absurd ⟨k,h1,h2⟩ h⟩
  unfold qfu_
  by_cases c1:i ≥ 0
  ·rw[if_pos c1]
   by_cases c2:i<((x.l.length:Nat):Int)
   ·exact absurd ⟨i.toNat,by omega,by omega⟩ h
   ·rw[if_neg c2]
  ·rw[if_neg c1]
theorem chk2 {n K:Nat}{x:WL rw_iiiiiiLu}(hL:x.l.length≤500)(hK:∀ j,(@kd _ ⟨x⟩ j).length≤K)(hn:2000+K<n):∃ c,q7_ n x=some c∧qe_ n x=some c∧(c=0 ↔ TreeOf x)∧(¬ TreeOf x→c=2):=by
 obtain⟨c,h1,h2⟩:=chkAny (n:=n) (x:=x) (by omega) (by omega)
 obtain⟨d,g1,g2⟩:=refAny (n:=n) (x:=x) (by omega) hK (by omega)
 have c02:c=0∨c=2:=by
  have h:=h1
  unfold q7_ at h
  rw[if_neg (by omega)] at h
  split at h
  ·exact .inr (Option.some.inj h).symm
  ·cases e:qes_ n x with
   | none=>rw[e] at h; cases h
   | some b=>
    rw[e] at h
    try dsimp only[Option.bind_some] at h
    split at h
    ·split at h
     ·cases h
     ·exact .inr (Option.some.inj h).symm
     ·exact .inl (Option.some.inj h).symm
    ·exact .inr (Option.some.inj h).symm
 have d02:d=0∨d=2:=by
  have h:=g1
  unfold qe_ at h
  rw[if_neg (by omega)] at h
  split at h
  ·cases h
  ·exact .inr (Option.some.inj h).symm
  ·split at h
   ·exact .inr (Option.some.inj h).symm
   ·cases e:qd_ n x 0 with
    | none=>rw[e] at h; cases h
    | some b=>
     rw[e] at h
     try dsimp only[Option.bind_some] at h
     split at h
     ·exact .inl (Option.some.inj h).symm
     ·exact .inr (Option.some.inj h).symm
 have e:d=c:=by
  by_cases hT:TreeOf x
  ·rw[h2.2 hT,g2.2 hT]
  ·have a1:c ≠ 0:=fun h=>hT (h2.1 h)
   have a2:d ≠ 0:=fun h=>hT (g2.1 h)
   omega
 subst e
 exact⟨d,h1,g1,h2,fun h=>by have:d ≠ 0:=fun e=>h (h2.1 e); omega⟩
open Classical in
theorem rfits2 {n K:Nat}{x o:WL rw_iiiiiiLu}{i:Int}(hL:x.l.length≤500)(hK:∀ j,(@kd _ ⟨x⟩ j).length≤K)(hO:o.l.length≤500)(hKo:∀ j,(@kd _ ⟨o⟩ j).length≤K)(hn:2000+K<n) :
  ∃ b,qdh_ n x i o=some b∧qjm_ n x i o=some b∧(b=true ↔ TreeOf x∧TreeOf o∧FT x i o):=by
 obtain⟨c,c1,c2,c3,c4⟩:=chk2 hL hK hn
 obtain⟨d,d1,d2,d3,d4⟩:=chk2 hO hKo hn
 unfold qdh_ qjm_
 rw[c1,c2]
 try dsimp only[Option.bind_some]
 by_cases hT:TreeOf x
 case neg=>
  have:¬ c=0:=fun h=>hT (c3.1 h)
  rw[if_neg this,if_neg this]
  exact⟨false,rfl,rfl,(fun h=>by cases h),fun h=>absurd h.1 hT⟩
 rw[if_pos (c3.2 hT),if_pos (c3.2 hT),d1,d2]
 try dsimp only[Option.bind_some]
 by_cases hO:TreeOf o
 case neg=>
  have:¬ d=0:=fun h=>hO (d3.1 h)
  rw[if_neg this,if_neg this]
  exact⟨false,rfl,rfl,(fun h=>by cases h),fun h=>absurd h.2.1 hO⟩
 rw[if_pos (d3.2 hO),if_pos (d3.2 hO)]
 have hpo:0<o.l.length:=@Tree.pos _ ⟨o⟩ hO
 obtain⟨b,b1,b2⟩:=sfits2 (n:=n) (x:=x) (o:=o) (i:=i) hpo
 rw[b1]
 refine⟨b,?_,rfl,fun h=>⟨hT,hO,b2.1 h⟩,fun h=>b2.2 h.2.2⟩
 by_cases h:∃ k:Nat,i=k∧k<x.l.length
 ·obtain⟨k,rfl,hk⟩:=h
  have hb:b=fitR (x.l.getD k d8) (o.l.getD 0 d8):=by
   have:=sfits_ok (n:=n) hk hpo
   rw[b1] at this
   exact Option.some.inj this
  rw[if_pos (by omega),if_pos (by omega),if_pos (by omega),Int.toNat_natCast]
  try dsimp only[Option.bind_some]
  rw[if_pos (by omega)]
  try dsimp only[Option.bind_some]
  rw[hb]
  show (if (x.l.getD k d8).1=(o.l.getD 0 d8).1 then if (x.l.getD k d8).2.1=(o.l.getD 0 d8).2.1 then if (x.l.getD k d8).2.2.1=(o.l.getD 0 d8).2.2.1 then if (x.l.getD k d8).2.2.2.2.1=(o.l.getD 0 d8).2.2.2.2.1 then some true else some false else some false else some false else some false)=some (fitR (x.l.getD k d8) (o.l.getD 0 d8))
  generalize x.l.getD k d8=p
  generalize o.l.getD 0 d8=q
  unfold fitR
  by_cases h1:p.1=q.1<;>by_cases h2:p.2.1=q.2.1<;>by_cases h3:p.2.2.1=q.2.2.1<;>by_cases h4:p.2.2.2.2.1=q.2.2.2.2.1<;>simp[h1,h2,h3,h4]
 ·have hb:b=false:=Bool.eq_false_iff.2 fun hb=>by
   obtain⟨k,h1,h2,_⟩:=b2.1 hb
   exact h ⟨k,h1,h2⟩
  rw[hb]
  by_cases c1:i ≥ 0
  ·rw[if_pos c1]
   by_cases c2:i<((x.l.length:Nat):Int)
   ·exact absurd ⟨i.toNat,by omega,by omega⟩ h
   ·rw[if_neg c2]
  ·rw[if_neg c1]
theorem rspl {n i e:Nat}{x o:WL rw_iiiiiiLu}{w:WL rw_iiiii}(hU:RngU x.l)(hT:TreeOf x)(hO:TreeOf o)(hx:x.l.length≤500)(ho:o.l.length≤500)(hn:3000<n)(hi:i<x.l.length)(he:KsOf x i 0 (i+1) (atOf x i) e)(hel:e≤x.l.length)(hf:fitR (x.l.getD i d8) (o.l.getD 0 d8)=true)(hw:w.l.length≤40) :
  ∃ (y:WL rw_iiiiiiLu) (d:NL),q5_ n x (i:Int) o w=some (y,d,0)∧y.l.map vw=vR (vS (x.l.map vw) (o.l.map vw) o.l.length i e) i ((@parL _ ⟨x⟩).getD i 0) (lefts (orM ((x.l.drop i).take (e-i))) (dsOf x i w.l))∧d.l=dsOf x i w.l:=by
 have hpo:0<o.l.length:=@Tree.pos _ ⟨o⟩ hO
 have hlt:=@Ks.lt _ ⟨x⟩ _ _ _ _ _ he
 obtain⟨M,hP,hM⟩:=rput_ok hT hO hx ho (by omega:2000<n) hi he hel hf
 rw[map_vS] at hM
 have hlen:M.length=i+o.l.length+(x.l.length-e):=by
  have:=congrArg List.length hM
  simp[vS] at this
  omega
 obtain⟨z,hz1,hz2⟩:=sub_ok (n:=n) hT hi he hel (by omega)
 have hzl:z.l.length≤x.l.length:=by
  have:=congrArg List.length hz2
  simp at this
  omega
 have hzo:orM z.l=orM ((x.l.drop i).take (e-i)):=orM_mt (by
  have:=congrArg (fun L:List V8=>L.map fun v=>v.2.2.2.2.2.2.2) hz2
  simp only[List.map_map] at this
  exact this)
 have hj:=rjobs (n:=n) (K:=x.l.length) (i:=(i:Int)) (w:=w) (o:=o) (v:=orM ((x.l.drop i).take (e-i))) hU (fun j=>@Tree.few _ ⟨x⟩ hT j) hx (by omega) hw
 have hdl:=qy7_ (x:=x) (i:=(i:Int)) (L:=w.l)
 obtain⟨b,b1,-,b3⟩:=rfits2 (n:=n) (K:=500) (x:=x) (o:=o) (i:=(i:Int)) hx (fun j=>Nat.le_trans (@Tree.few _ ⟨x⟩ hT j) hx) ho (fun j=>Nat.le_trans (@Tree.few _ ⟨o⟩ hO j) ho) (by omega)
 obtain rfl:b=true:=b3.2 ⟨hT,hO,i,rfl,hi,hf⟩
 obtain⟨q,hq,hql⟩:=rpar_ok hT (by omega:x.l.length≤500) (by omega:2000<n)
 have hpl:(@parL _ ⟨x⟩).length=x.l.length:=@parL_len _ ⟨x⟩
 unfold q5_
 rw[qwj_ hT (by omega)]
 try dsimp only[Option.bind_some]
 rw[if_pos rfl,qwj_ hO (by omega)]
 try dsimp only[Option.bind_some]
 rw[if_pos rfl,b1]
 try dsimp only[Option.bind_some]
 rw[if_pos rfl,hz1]
 try dsimp only[Option.bind_some]
 rw[rbits (by omega) (by omega),hzo]
 try dsimp only[Option.bind_some]
 rw[hj]
 try dsimp only[Option.bind_some]
 generalize dsOf x (i:Int) w.l=ds at hj hdl ⊢
 generalize hPP:(@parL _ ⟨x⟩).getD i 0=P
 by_cases h0:0<i
 ·obtain⟨p,hp,hpi⟩:=par_lt hT h0 hi
  obtain rfl:P=(p:Int):=by rw[←hPP]; exact hp
  have hv:∀ b,(M.set p (orR (M.getD p d8) b)).map vw=vR (vS (x.l.map vw) (o.l.map vw) o.l.length i e) i (p:Int) b:=fun b=>by
   unfold vR
   rw[if_pos h0,Int.toNat_natCast,←hM]
   exact map_or
  cases ds with
  | nil=>
   dsimp only
   rw[hq]
   try dsimp only[Option.bind_some]
   rw[hql,hpl,if_pos (by omega),Int.toNat_natCast,if_pos hi,hPP]
   try dsimp only[Option.bind_some]
   rw[hP]
   dsimp only
   rw[if_pos (by omega),if_pos (by omega),Int.toNat_natCast]
   try dsimp only[Option.bind_some]
   rw[if_pos (by simp),dif_pos (by rw[List.length_set]; omega)]
   exact⟨_,nl0,rfl,hv _,rfl⟩
  | cons b u=>
   dsimp only
   rw[hq]
   try dsimp only[Option.bind_some]
   rw[hql,hpl,if_pos (by omega),Int.toNat_natCast,if_pos hi,hPP]
   try dsimp only[Option.bind_some]
   rw[hP]
   dsimp only
   rw[if_pos (by omega),if_pos (by omega),Int.toNat_natCast]
   try dsimp only[Option.bind_some]
   rw[dif_pos (by omega),if_pos (by simp),dif_pos (by rw[List.length_set]; omega)]
   exact⟨_,frzL (b::u) (by omega),rfl,hv _,rfl⟩
 ·obtain rfl:i=0:=by omega
  obtain rfl:P=-1:=by rw[←hPP]; exact @par_root _ ⟨x⟩ hT
  have hv:∀ q b,M.map vw=vR (vS (x.l.map vw) (o.l.map vw) o.l.length 0 e) 0 q b:=fun q b=>by
   unfold vR
   rw[if_neg h0]
   exact hM
  cases ds with
  | nil=>
   dsimp only
   rw[hq]
   try dsimp only[Option.bind_some]
   rw[hql,hpl,if_pos (by omega),Int.toNat_natCast,if_pos hi,hPP]
   try dsimp only[Option.bind_some]
   rw[hP]
   dsimp only
   rw[if_neg (by omega),dif_pos (by omega)]
   exact⟨_,nl0,rfl,hv _ _,rfl⟩
  | cons b u=>
   dsimp only
   rw[hq]
   try dsimp only[Option.bind_some]
   rw[hql,hpl,if_pos (by omega),Int.toNat_natCast,if_pos hi,hPP]
   try dsimp only[Option.bind_some]
   rw[hP]
   dsimp only
   rw[if_neg (by omega),dif_pos (by omega),dif_pos (by omega)]
   exact⟨_,frzL (b::u) (by omega),rfl,hv _ _,rfl⟩


def FewV (n:Nat)(X:List V8):Prop:=∀ v∈X,v.2.2.2.2.2.2.1.length≤1000000∧v.2.2.2.2.2.2.1.length<n
theorem FewV.rows {n:Nat}{L:List P8}(h:FewV n (L.map vw)):FewK n L:=fun r hr=>h (vw r) (List.mem_map_of_mem hr)
theorem FewK.vw {n:Nat}{L:List P8}(h:FewK n L):FewV n (L.map vw):=fun v hv=>by
 obtain⟨r,hr,rfl⟩:=List.mem_map.1 hv
 exact h r hr
theorem FewV.mv {n:Nat}{X:List V8}{f:Int→Int}(h:FewV n X):FewV n (X.map (mvK f)):=fun v hv=>by
 obtain⟨r,hr,rfl⟩:=List.mem_map.1 hv
 have:=h r hr
 show (r.2.2.2.2.2.2.1.map f).length≤1000000∧(r.2.2.2.2.2.2.1.map f).length<n
 rw[List.length_map]; exact this
theorem fewV_vS {n:Nat}{X O:List V8}{N:Int}{i e:Nat}(h1:FewV n X)(h2:FewV n O):FewV n (vS X O N i e):=fun v hv=>by
 unfold vS at hv
 rcases List.mem_append.1 hv with h | h
 ·rcases List.mem_append.1 h with h | h
  ·exact FewV.mv (fun r hr=>h1 r (List.mem_of_mem_take hr)) v h
  ·exact FewV.mv h2 v h
 ·exact FewV.mv (fun r hr=>h1 r (List.mem_of_mem_drop hr)) v h
theorem fewV_vR {n:Nat}{P:List V8}{i:Nat}{p b:Int}(h0:0<n)(h:FewV n P):FewV n (vR P i p b):=fun v hv=>by
 unfold vR at hv
 split at hv
 ·rcases List.mem_or_eq_of_mem_set hv with g | g
  ·exact h v g
  ·rw[g]
   show (P.getD p.toNat (vw d8)).2.2.2.2.2.2.1.length≤1000000∧(P.getD p.toNat (vw d8)).2.2.2.2.2.2.1.length<n
   by_cases c:p.toNat<P.length
   ·exact h _ (qog_ c)
   ·rw[List.getD_eq_getElem?_getD,List.getElem?_eq_none (by omega)]
    exact⟨Nat.zero_le _,h0⟩
 ·exact h v hv
theorem few_kd {n K:Nat}{x:WL rw_iiiiiiLu}(hK:∀ j,(@kd _ ⟨x⟩ j).length≤K)(h1:K≤1000000)(h2:K<n):FewK n x.l:=fun r hr=>by
 obtain⟨j,hj,rfl⟩:=qjr_ d8 hr
 have h:(x.l.getD j d8).2.2.2.2.2.2.1.l.length≤K:=hK j
 exact⟨by omega,by omega⟩
theorem dsOf_congr {x y:WL rw_iiiiiiLu}(h:Alike x y){i:Int}{L:List J5}:dsOf y i L=dsOf x i L:=by
 unfold dsOf
 congr 1
 refine List.filter_congr fun r _=>?_
 exact decide_eq_decide.2 ⟨fun g=>h.symm.dn g,fun g=>h.dn g⟩
theorem orM_take {x y:WL rw_iiiiiiLu}(h:Alike x y)(a b:Nat):orM ((y.l.drop a).take b)=orM ((x.l.drop a).take b):=orM_vw (h.drop a b)
theorem sameI {n:Nat}{k l:NL}(h:k.l=l.l)(hk:k.l.length≤1000000)(hn:k.l.length<n):qd6_ n k l=some true:=by
 obtain⟨q,rfl,q2⟩:=hoare (B:=qbw_ n k l) (σ:=Unit) (fun _ j=>j) (fun _ _=>True) (fun q=>q=.inr ()) k.l.length
  (fun j _ hj _=>by
   refine .inl ⟨(),trivial,?_⟩
   unfold qbw_
   dsimp only
   rw[←h,if_pos (by omega),if_pos (by omega),if_pos (by omega),Int.toNat_natCast]
   try dsimp only[Option.bind_some]
   rw[if_pos (by omega),if_pos hj]
   try dsimp only[Option.bind_some]
   rw[if_pos rfl,w64_inc (by omega)])
  (fun _ _=>⟨_,rfl,by unfold qbw_; dsimp only; rw[if_neg (by omega)]⟩)
  n 0 () (Nat.zero_le _) trivial (by omega)
 have q2:qeo_ n k l 0=some (.inr ()):=q2
 unfold qd6_
 rw[if_pos (by rw[h]),q2]
theorem both {n:Nat}{x y o:WL rw_iiiiiiLu}{w:WL rw_iiiii}{i:Int}(h:Alike x y)(hU:RngU x.l)(hx:x.l.length≤100)(hK:∀ j,(@kd _ ⟨x⟩ j).length≤200)(ho:o.l.length≤100)(hKo:∀ j,(@kd _ ⟨o⟩ j).length≤200)(hw:w.l.length≤40)(hn:4000<n) :
  ∃ (a b:WL rw_iiiiiiLu) (d f:NL) (c:Int),qda_ n y i o w=some (a,d,c)∧q5_ n x i o w=some (b,f,c)∧a.l.map vw=b.l.map vw∧d.l=f.l∧d.l.length≤40∧a.l.length≤1000∧FewK n a.l:=by
 have hl:=h.len
 have hKy:∀ j,(@kd _ ⟨y⟩ j).length≤200:=fun j=>by rw[h.kids j]; exact hK j
 have hUy:RngU y.l:=fun r hr=>by
  obtain⟨j,hj,rfl⟩:=qjr_ d8 hr
  rw[h.mt' j]
  exact hU _ (qog_ (by omega))
 obtain⟨c,c1,c2,c3,c4⟩:=chk2 (n:=n) (K:=200) (x:=x) (by omega) hK (by omega)
 obtain⟨c',c1',c2',c3',c4'⟩:=chk2 (n:=n) (K:=200) (x:=y) (by omega) hKy (by omega)
 obtain⟨d,d1,d2,d3,d4⟩:=chk2 (n:=n) (K:=200) (x:=o) (by omega) hKo (by omega)
 have nil2:FewK n (wl0:WL rw_iiiiiiLu).l:=fun r hr=>by cases hr
 by_cases hT:TreeOf x
 case neg=>
  have hTy:¬ TreeOf y:=fun g=>hT (h.symm.tree g)
  obtain rfl:=c4 hT
  obtain rfl:=c4' hTy
  refine⟨wl0,wl0,nl0,nl0,2,?_,?_,rfl,rfl,Nat.zero_le _,Nat.zero_le _,nil2⟩
  ·unfold qda_
   rw[c1']
   rfl
  ·unfold q5_
   rw[c2]
   rfl
 have hTy:TreeOf y:=h.tree hT
 by_cases hO:TreeOf o
 case neg=>
  obtain rfl:=d4 hO
  refine⟨wl0,wl0,nl0,nl0,2,?_,?_,rfl,rfl,Nat.zero_le _,Nat.zero_le _,nil2⟩
  ·unfold qda_
   rw[c1',c3'.2 hTy]
   try dsimp only[Option.bind_some]
   rw[if_pos rfl,d1]
   rfl
  ·unfold q5_
   rw[c2,c3.2 hT]
   try dsimp only[Option.bind_some]
   rw[if_pos rfl,d2]
   rfl
 have hpo:0<o.l.length:=@Tree.pos _ ⟨o⟩ hO
 have hft:∀ k:Nat,fitR (y.l.getD k d8) (o.l.getD 0 d8)=fitR (x.l.getD k d8) (o.l.getD 0 d8):=fun k=>by
  have hr:=h.row k
  simp only[vw,Prod.mk.injEq] at hr
  obtain⟨e1,e2,e3,e4,e5,-⟩:=hr
  unfold fitR
  rw[e1,e2,e3,e5]
 by_cases hF:FT x i o
 case neg=>
  obtain⟨b1,g1,g2⟩:=sfits2 (n:=n) (x:=y) (o:=o) (i:=i) hpo
  obtain⟨b2,f1,-,f2⟩:=rfits2 (n:=n) (K:=200) (x:=x) (o:=o) (i:=i) (by omega) hK (by omega) hKo (by omega)
  have hb1:¬ b1=true:=fun g=>hF (by
   obtain⟨k,k1,k2,k3⟩:=g2.1 g
   exact⟨k,k1,by omega,by rw[←hft k]; exact k3⟩)
  have hb2:¬ b2=true:=fun g=>hF (f2.1 g).2.2
  refine⟨wl0,wl0,nl0,nl0,2,?_,?_,rfl,rfl,Nat.zero_le _,Nat.zero_le _,nil2⟩
  ·unfold qda_
   rw[c1',c3'.2 hTy]
   try dsimp only[Option.bind_some]
   rw[if_pos rfl,d1,d3.2 hO]
   try dsimp only[Option.bind_some]
   rw[if_pos rfl,g1]
   try dsimp only[Option.bind_some]
   rw[if_neg hb1]
  ·unfold q5_
   rw[c2,c3.2 hT]
   try dsimp only[Option.bind_some]
   rw[if_pos rfl,d2,d3.2 hO]
   try dsimp only[Option.bind_some]
   rw[if_pos rfl,f1]
   try dsimp only[Option.bind_some]
   rw[if_neg hb2]
 obtain⟨k,rfl,hk,hf⟩:=hF
 obtain⟨e,he,hlt,hel⟩:=@Tree.end _ ⟨x⟩ hT k hk
 have he:KsOf x k 0 (k+1) (atOf x k) e:=he
 have hel:e≤x.l.length:=hel
 have hey:KsOf y k 0 (k+1) (atOf y k) e:=by rw[h.at' k]; exact h.ks he
 obtain⟨a,d',p1,p2,p3⟩:=pspl (n:=n) (w:=w) hUy hTy hO (by omega) (by omega) (by omega) (by omega) hey (by omega) (by rw[hft k]; exact hf) hw
 obtain⟨b,f,r1,r2,r3⟩:=rspl (n:=n) (w:=w) hU hT hO (by omega) (by omega) (by omega) hk he hel hf hw
 have hv:y.l.map vw=x.l.map vw:=h
 rw[hv,h.par,orM_take h,dsOf_congr h] at p2
 rw[dsOf_congr h] at p3
 have hds:=qy7_ (x:=x) (i:=(k:Int)) (L:=w.l)
 refine⟨a,b,d',f,0,p1,r1,p2.trans r2.symm,p3.trans r3.symm,by rw[p3]; omega,?_,?_⟩
 ·have:=congrArg List.length p2
  unfold vR vS at this
  split at this<;>(simp at this; omega)
 ·refine FewV.rows ?_
  rw[p2]
  exact fewV_vR (by omega) (fewV_vS (few_kd hK (by omega) (by omega)).vw (few_kd hKo (by omega) (by omega)).vw)
theorem bits2 {n:Nat}{x:WL rw_iiiiiiLu}(hx:x.l.length≤100)(hK:∀ j,(@kd _ ⟨x⟩ j).length≤200)(hn:4000<n):∃ b,qht_ n x=some b∧qdk_ n x=some b:=by
 obtain⟨c,c1,c2,c3,c4⟩:=chk2 (n:=n) (K:=200) (x:=x) (by omega) hK (by omega)
 unfold qht_ qdk_ qdx_
 rw[c1,c2]
 try dsimp only[Option.bind_some]
 by_cases h:c=0
 ·rw[if_pos h,if_pos h,rbits (by omega) (by omega)]
  have g:=qxb_ (n:=n) (a:=0) (b:=x.l.length) (x:=x) (by omega) (by omega) (by omega) (by omega)
  have g:qcc_ n x 0 (x.l.length:Int)=_:=g
  rw[g,List.drop_zero,Nat.sub_zero,List.take_length]
  exact⟨_,rfl,rfl⟩
 ·rw[if_neg h,if_neg h]
  exact⟨_,rfl,rfl⟩


theorem fewV_map {n:Nat}{X:List V8}{g:V8→V8}(hg:∀ v,(g v).2.2.2.2.2.2.1.length=v.2.2.2.2.2.2.1.length)(h:FewV n X):FewV n (X.map g):=fun v hv=>by
 obtain⟨r,hr,rfl⟩:=List.mem_map.1 hv
 rw[hg]; exact h r hr
theorem t10_ok {n:Nat}{x o a b:WL rw_iiiiiiLu}{i s t c:Int}{f g:NL}(ha:a.l.map vw=b.l.map vw)(hal:a.l.length≤1000)(haf:FewK n a.l)(hd:f.l=g.l)(hfl:f.l.length≤40)(hR:Rng x.l)(hx:x.l.length≤100)(hK:∀ j,(@kd _ ⟨x⟩ j).length≤200)(ho:o.l.length≤100)(hKo:∀ j,(@kd _ ⟨o⟩ j).length≤200)(hn:4000<n) :
  qca_ n x o i s t a f c b g c ()=some ():=by
 obtain⟨b1,f1,f2,-⟩:=rfits2 (n:=n) (K:=200) (x:=x) (o:=o) (i:=i) (by omega) hK (by omega) hKo (by omega)
 have fx:FewK n x.l:=few_kd hK (by omega) (by omega)
 obtain⟨y,z,k1,k2,k3,k4⟩:=clear_ok (n:=n) (s:=s) hR fx (by omega) (by omega)
 obtain⟨y',z',g1,g2,g3,g4⟩:=give_ok (n:=n) (s:=s) (d:=t) hR fx (by omega) (by omega)
 obtain⟨v,v1,v2⟩:=bits2 (n:=n) hx hK hn
 have fy:FewK n y.l:=FewV.rows (by
  rw[k3]
  refine fewV_map (fun v=>?_) fx.vw
  split<;>rfl)
 have fy':FewK n y'.l:=FewV.rows (by
  rw[g3]
  refine fewV_map (fun v=>?_) fx.vw
  split<;>rfl)
 have ly:y.l.length=x.l.length:=by simpa using congrArg List.length k3
 have ly':y'.l.length=x.l.length:=by simpa using congrArg List.length g3
 unfold qca_
 rw[same_ok ha (by omega) haf (by omega)]
 try dsimp only[Option.bind_some]
 rw[if_pos rfl,sameI hd (by omega) (by omega)]
 try dsimp only[Option.bind_some]
 rw[if_pos rfl,if_pos rfl,f2,f1]
 try dsimp only[Option.bind_some]
 rw[k1,k2]
 try dsimp only[Option.bind_some]
 rw[same_ok (k3.trans k4.symm) (by omega) fy (by omega),g1,g2]
 try dsimp only[Option.bind_some]
 rw[same_ok (g3.trans g4.symm) (by omega) fy' (by omega),v1,v2]
 try dsimp only[Option.bind_some]
 rw[if_pos rfl,if_pos rfl,if_pos rfl]
 cases b1<;>rfl
theorem loop7 {n:Nat}{x o a b:WL rw_iiiiiiLu}{w:WL rw_iiiii}{i s t c c':Int}{f g:NL}(hU:RngU x.l)(hx:x.l.length≤100)(hK:∀ j,(@kd _ ⟨x⟩ j).length≤200)(hw:w.l.length≤40)(hn:4000<n) :
  qe8_ n x o i w s t a f c b g c' 0=some ():=by
 obtain⟨q,-,q2⟩:=hoare (B:=q3_ n x o i w s t a f c b g c') (σ:=Unit) (fun _ j=>j) (fun _ _=>True) (fun _=>True) w.l.length
  (fun j _ hj _=>by
   refine .inl ⟨(),trivial,?_⟩
   obtain⟨b1,h1,h2,-⟩:=done2 (n:=n) (i:=i) (s:=(w.l.getD j (0,0,0,0,0)).1) (f1:=(w.l.getD j (0,0,0,0,0)).2.1) (f2:=(w.l.getD j (0,0,0,0,0)).2.2.1) (f3:=(w.l.getD j (0,0,0,0,0)).2.2.2.1) (f4:=(w.l.getD j (0,0,0,0,0)).2.2.2.2) hU hK (by omega) (by omega)
   have h8:qck_ n x o i w s t a f c b g c' (j:Int) ()=some ():=by
    unfold qck_
    rw[if_pos (by omega),Int.toNat_natCast]
    try dsimp only[Option.bind_some]
    rw[h1,h2]
    cases b1<;>rfl
   unfold q3_
   dsimp only
   rw[if_pos (by omega),h8]
   try dsimp only[Option.bind_some]
   rw[w64_inc (by omega)])
  (fun _ _=>⟨_,trivial,by unfold q3_; dsimp only; rw[if_neg (by omega)]⟩)
  n 0 () (Nat.zero_le _) trivial (by omega)
 exact q2
theorem lightC {n:Nat}{x o:WL rw_iiiiiiLu}{w:WL rw_iiiii}(hn:200<n):∃ b,qd5_ n x o w=some b∧(b=true→(x.l.length≤100∧∀ j,(@kd _ ⟨x⟩ j).length≤200)∧(o.l.length≤100∧∀ j,(@kd _ ⟨o⟩ j).length≤200)∧w.l.length≤40):=by
 obtain⟨b1,h1,g1⟩:=lightK (n:=n) (mo:=100) (x:=x) (by omega) (by omega)
 obtain⟨b2,h2,g2⟩:=lightK (n:=n) (mo:=100) (x:=o) (by omega) (by omega)
 have h1:q6_ n x 100=some b1:=h1
 have h2:q6_ n o 100=some b2:=h2
 unfold qd5_
 rw[h1]
 try dsimp only[Option.bind_some]
 cases b1 with
 | false=>rw[if_neg (by decide)]; exact⟨_,rfl,fun h=>by cases h⟩
 | true=>
  rw[if_pos rfl,h2]
  try dsimp only[Option.bind_some]
  cases b2 with
  | false=>rw[if_neg (by decide)]; exact⟨_,rfl,fun h=>by cases h⟩
  | true=>
   rw[if_pos rfl]
   by_cases c:((w.l.length:Nat):Int)≤40
   ·rw[if_pos c]; exact⟨_,rfl,fun _=>⟨g1 rfl,g2 rfl,by omega⟩⟩
   ·rw[if_neg c]; exact⟨_,rfl,fun h=>by cases h⟩
theorem rngU_A:RngU (wA).l:=fun r hr=>by
 have:=(Args.uA r hr).2
 refine⟨BitVec.ofNat 64 (mt r).toNat,?_⟩
 have h:0≤mt r∧mt r<18446744073709551616:=this
 rw[BitVec.toNat_ofNat,Nat.mod_eq_of_lt (by omega)]
 omega
theorem rng_A:Rng (wA).l:=fun r hr k hk=>(Args.uA r hr).1 k hk
theorem t4_ok {n:Nat}{g2 g4 g5:Int}(hx:(wA).l.length≤100)(hK:∀ j,(@kd _ ⟨wA⟩ j).length≤200)(ho:(wB).l.length≤100)(hKo:∀ j,(@kd _ ⟨wB⟩ j).length≤200)(hw:(wC).l.length≤40)(hn:4000<n):q4_ n wA wB g2 wC g4 g5 ()=some ():=by
 obtain⟨y,hy,hal⟩:=ownParts (n:=n) (x:=wA) (by omega) (fun j=>Nat.le_trans (hK j) (by omega)) (by omega)
 obtain⟨a,b,d,f,c,p1,p2,p3,p4,p5,p6,p7⟩:=both (n:=n) (i:=g2) hal rngU_A hx hK ho hKo hw hn
 unfold q4_
 rw[hy]
 try dsimp only[Option.bind_some]
 rw[p1]
 try dsimp only[Option.bind_some]
 unfold qdf_
 rw[p2]
 try dsimp only[Option.bind_some]
 unfold qde_
 rw[loop7 rngU_A hx hK hw hn]
 try dsimp only[Option.bind_some]
 rw[t10_ok p3 p6 p7 p4 p5 rng_A hx hK ho hKo hn]
 rfl
theorem qy8_ (g2 g4 g5:Int):∃ n,qf4_ n g2 g4 g5=some ():=by
 obtain⟨n,hn⟩:∃ n:Nat,n=5000:=⟨_,rfl⟩
 refine⟨n,?_⟩
 have key:qbn_ n wA wB g2 wC g4 g5 ()=some ():=by
  unfold qbn_
  obtain⟨b,hb,hl⟩:=lightC (n:=n) (x:=wA) (o:=wB) (w:=wC) (by omega)
  rw[hb]
  try dsimp only[Option.bind_some]
  cases b with
  | false=>rw[if_neg (by decide)]; rfl
  | true=>
   obtain⟨⟨h1,h2⟩,⟨h3,h4⟩,h5⟩:=hl rfl
   rw[if_pos rfl]
   show (q4_ n wA wB g2 wC g4 g5 ()).bind _=_
   rw[t4_ok h1 h2 h3 h4 h5 (by omega)]
   rfl
 show (qbn_ n wA wB g2 wC g4 g5 ()).bind _=_
 rw[key]
 rfl

end Go.Proofs.Ytdcocjjkfodjeaa.spc20
