/-
  The pure side. No condition.
-/
import Derived.Test.YtdcocjjkfodjeaaSpcPure
import Derived.IntWalk
set_option linter.unusedSimpArgs false
set_option linter.unusedVariables false
set_option linter.unusedSectionVars false
set_option linter.unnecessarySimpa false
noncomputable section
namespace Go.Proofs.Ytdcocjjkfodjeaa.spc20
open Go Go.Proofs.Ytdcocjjkfodjeaa Ax
variable [Args]


theorem snoc_range {β:Type}{i:Nat}{F:Nat→β}:(List.range (i+1)).map F=(List.range i).map F ++ [F i]:=by
 rw[List.range_succ,List.map_append]; rfl
theorem q0h_ {α β:Type}{B:List α×Int→Option ((List α×Int) ⊕ List α)}(v:α→β)(F:Nat→β)(len C:Nat)
  (h1:∀ (i:Nat) (acc:List α),i<len→acc.length≤C+i→∃ r,v r=F i∧B (acc,(i:Int))=some (.inl (acc ++ [r],((i+1:Nat):Int))))
  (h2:∀ acc,B (acc,(len:Int))=some (.inr acc)) (n:Nat) (acc0:List α) (h0:acc0.length≤C) (hn:len<n) :
  ∃ M,iterM B n (acc0,0)=some (acc0++M)∧M.map v=(List.range len).map F:=by
 obtain⟨r,q1,q2⟩:=hoare (B:=B) (σ:=List α) (fun L i=>(L,i)) (fun i L=>∃ M,L=acc0++M∧M.map v=(List.range i).map F) (fun r=>∃ M,r=acc0++M∧M.map v=(List.range len).map F) len
  (fun i L hi hI=>by
   obtain⟨M,rfl,hM⟩:=hI
   have hl:M.length=i:=by simpa using congrArg List.length hM
   obtain⟨r,g1,g2⟩:=h1 i (acc0++M) hi (by rw[List.length_append]; omega)
   refine .inl ⟨_,⟨M ++ [r],by rw[List.append_assoc],?_⟩,g2⟩
   rw[List.map_append,hM,snoc_range,←g1]; rfl)
  (fun L hI=>⟨L,hI,h2 L⟩) n 0 acc0 (Nat.zero_le _) ⟨[],by simp,rfl⟩ (by omega)
 obtain⟨M,rfl,hM⟩:=q1
 exact⟨M,q2,hM⟩
theorem q1r_ {α:Type}{d:α}{L M:List α}(hl:L.length=M.length)(h:∀ j,j<M.length→L.getD j d=M.getD j d):L=M:=by
 apply List.ext_getElem hl
 intro j h1 h2
 have:=h j h2
 simpa [List.getD_eq_getElem?_getD,h1,h2] using this
theorem range_getD {β:Type}{F:Nat→β}{d:β}{len j:Nat}(h:j<len):((List.range len).map F).getD j d=F j:=by
 simp[List.getD_eq_getElem?_getD,h]
theorem qkg_ {α β:Type}{f:α→β}{d:α}{l:List α}:(List.range l.length).map (fun j=>f (l.getD j d))=l.map f:=by
 apply List.ext_getElem (by simp)
 intro j h1 h2
 have hj:j<l.length:=by simpa using h2
 simp[List.getD_eq_getElem?_getD,hj]
theorem fillLoop {α:Type}{B:List α×Int→Option ((List α×Int) ⊕ List α)}(d:α)(F:Nat→α)(len:Nat)
  (h1:∀ (i:Nat) (L:List α),i<len→L.length=len→B (L,(i:Int))=some (.inl (L.set i (F i),((i+1:Nat):Int))))
  (h2:∀ L,B (L,(len:Int))=some (.inr L)) (n:Nat) (L0:List α) (h0:L0.length=len) (hn:len<n) :
  iterM B n (L0,0)=some ((List.range len).map F):=by
 obtain⟨r,rfl,q2⟩:=hoare (B:=B) (σ:=List α) (fun L i=>(L,i)) (fun i L=>L.length=len∧∀ j,j<i→L.getD j d=F j) (fun r=>r=(List.range len).map F) len
  (fun i L hi hI=>.inl ⟨_,⟨by rw[List.length_set,hI.1],fun j hj=>by
   rw[qnh_ (by rw[hI.1]; exact hi)]
   by_cases e:j=i
   ·rw[if_pos e,e]
   ·rw[if_neg e]; exact hI.2 j (by omega)⟩,h1 i L hi hI.1⟩)
  (fun L hI=>⟨L,q1r_ (d:=d) (by simp[hI.1]) fun j hj=>by
   have hj:j<len:=by simpa using hj
   rw[hI.2 j hj,range_getD hj],h2 L⟩) n 0 L0 (Nat.zero_le _) ⟨h0,fun j hj=>absurd hj (Nat.not_lt_zero _)⟩ (by omega)
 exact q2
theorem foldLoop {σ:Type}{B:σ×Int→Option ((σ×Int) ⊕ σ)}(g:σ→Nat→σ)(len:Nat)
  (h1:∀ (i:Nat) (s:σ),i<len→B (s,(i:Int))=some (.inl (g s i,((i+1:Nat):Int))))
  (h2:∀ s,B (s,(len:Int))=some (.inr s)) (n:Nat) (s0:σ) (hn:len<n) :
  iterM B n (s0,0)=some ((List.range len).foldl g s0):=by
 obtain⟨r,rfl,q2⟩:=hoare (B:=B) (σ:=σ) (fun s i=>(s,i)) (fun i s=>s=(List.range i).foldl g s0) (fun r=>r=(List.range len).foldl g s0) len
  (fun i s hi hI=>.inl ⟨_,by rw[List.range_succ,List.foldl_append,hI]; rfl,h1 i s hi⟩)
  (fun s hI=>⟨s,hI,h2 s⟩) n 0 s0 (Nat.zero_le _) rfl (by omega)
 exact q2
theorem qxa_ {α:Type}{l:List α}{d:α}{i j:Nat}(h:j<i):(l.take i).getD j d=l.getD j d:=by
 simp[List.getD_eq_getElem?_getD,List.getElem?_take,h]
theorem q1s_ {α:Type}{l:List α}{d:α}{i j:Nat}:(l.drop i).getD j d=l.getD (i+j) d:=by
 simp[List.getD_eq_getElem?_getD]
abbrev V8:=Int×Int×Int×Int×Int×Int×List Int×Int
def vw (r:Int×Int×Int×Int×Int×Int×NL×Int):V8:=(r.1,r.2.1,r.2.2.1,r.2.2.2.1,r.2.2.2.2.1,r.2.2.2.2.2.1,r.2.2.2.2.2.2.1.l,r.2.2.2.2.2.2.2)
def mvK (f:Int→Int)(r:V8):V8:=(r.1,r.2.1,r.2.2.1,r.2.2.2.1,r.2.2.2.2.1,r.2.2.2.2.2.1,r.2.2.2.2.2.2.1.map f,r.2.2.2.2.2.2.2)


def ins (i v:Int):Int:=w64 (v+i)
def rk (r:P8)(k:NL):P8:=(r.1,r.2.1,r.2.2.1,r.2.2.2.1,r.2.2.2.2.1,r.2.2.2.2.2.1,k,r.2.2.2.2.2.2.2)
theorem vw_rk {r:P8}{k:NL}{f:Int→Int}(h:k.l=r.2.2.2.2.2.2.1.l.map f):vw (rk r k)=mvK f (vw r):=by
 show (_,_,_,_,_,_,k.l,_)=_
 rw[h]; rfl
def FewK (n:Nat)(L:List P8):Prop:=∀ r∈L,r.2.2.2.2.2.2.1.l.length≤1000000∧r.2.2.2.2.2.2.1.l.length<n
theorem fewD {n:Nat}{L:List P8}(h:FewK n L){i:Nat}(hi:i<L.length):(L.getD i d8).2.2.2.2.2.2.1.l.length≤1000000∧(L.getD i d8).2.2.2.2.2.2.1.l.length<n:=h _ (qog_ hi)
theorem few_of [Cur](hT:Tree){n:Nat}(hn:Cur.x.l.length<n):FewK n Cur.x.l:=fun r hr=>by
 obtain⟨i,hi,rfl⟩:=qjr_ d8 hr
 have:=hT.few i
 have hm:=hT.max
 exact⟨by show (kd i).length≤_; omega,by show (kd i).length<_; omega⟩
def TreeOf (y:WL rw_iiiiiiLu):Prop:=@Tree _ ⟨y⟩
theorem chk {n:Nat}{x:WL rw_iiiiiiLu}(hT:TreeOf x)(hn:x.l.length<n):q7_ n x=some 0:=@check_ok _ ⟨x⟩ n hT hn
abbrev KsOf (x:WL rw_iiiiiiLu)(i k next:Nat)(a:Int)(e:Nat):Prop:=@Ks _ ⟨x⟩ i k next a e
abbrev atOf (x:WL rw_iiiiiiLu)(i:Nat):Int:=@atF _ ⟨x⟩ i
theorem refC {n:Nat}{x:WL rw_iiiiiiLu}(hL:x.l.length≤1000000){K:Nat}(hK:∀ j,(@kd _ ⟨x⟩ j).length≤K)(hn:x.l.length+K+20<n):∃ c,qe_ n x=some c∧(c=0→TreeOf x):=@refCheck_ok _ ⟨x⟩ n K hK hn hL


def aft (e b v:Int):Int:=if v ≥ e then w64 (v+b) else v
theorem put1 {n:Nat}{v e b:Int}:qmp_ n v [e] [b]=some (aft e b v):=by
 unfold qmp_ aft
 rw[if_pos (by simp),if_pos (by simp)]
 show (if v ≥ e then some (w64 (v+b)) else some v)=_
 split<;>rfl
theorem put2 {n:Nat}{v i:Int}:qmr_ n v [i]=some (ins i v):=by
 unfold qmr_
 rw[if_pos (by simp)]
 rfl
theorem each1 {n:Nat}{x:NL}{e b:Int}(hx:x.l.length≤1000000)(hn:x.l.length<n):∃ k,qdu_ n x e b=some k∧k.l=x.l.map (aft e b):=by
 unfold qdu_
 by_cases h0:x.l.length=0
 ·rw[if_pos (by omega)]
  exact⟨_,rfl,by rw[List.length_eq_zero_iff.1 h0]; rfl⟩
 ·rw[if_neg (by omega),if_pos (by omega),if_pos (by omega),Int.toNat_natCast]
  have h:=fillLoop (B:=qcx_ n [e] [b] x.l.length x (x.l.length:Int)) 0 (fun i=>aft e b (x.l.getD i 0)) x.l.length
   (fun i L hi hL=>by
    unfold qcx_
    dsimp only
    rw[if_pos (by omega),if_pos (by omega),Int.toNat_natCast,if_pos hi]
    dsimp only[Option.bind_some]
    rw[put1]
    dsimp only[Option.bind_some]
    rw[if_pos (by omega),if_pos (by omega),w64_inc (by omega)])
   (fun L=>by
    unfold qcx_
    dsimp only
    rw[if_neg (by omega)]) n (List.replicate x.l.length 0) (by simp) hn
  unfold qim_
  rw[h,qkg_]
  dsimp only[Option.bind_some]
  rw[if_pos (by simp),dif_pos (by rw[List.length_map]; omega)]
  exact⟨_,rfl,rfl⟩
theorem each2 {n:Nat}{x:NL}{i:Int}(hx:x.l.length≤1000000)(hn:x.l.length<n):∃ k,qev_ n x i=some k∧k.l=x.l.map (ins i):=by
 unfold qev_
 by_cases h0:x.l.length=0
 ·rw[if_pos (by omega)]
  exact⟨_,rfl,by rw[List.length_eq_zero_iff.1 h0]; rfl⟩
 ·rw[if_neg (by omega),if_pos (by omega),if_pos (by omega),Int.toNat_natCast]
  have h:=fillLoop (B:=qcy_ n [i] x.l.length x (x.l.length:Int)) 0 (fun j=>ins i (x.l.getD j 0)) x.l.length
   (fun j L hi hL=>by
    unfold qcy_
    dsimp only
    rw[if_pos (by omega),if_pos (by omega),Int.toNat_natCast,if_pos hi]
    dsimp only[Option.bind_some]
    rw[put2]
    dsimp only[Option.bind_some]
    rw[if_pos (by omega),if_pos (by omega),w64_inc (by omega)])
   (fun L=>by
    unfold qcy_
    dsimp only
    rw[if_neg (by omega)]) n (List.replicate x.l.length 0) (by simp) hn
  unfold qin_
  rw[h,qkg_]
  dsimp only[Option.bind_some]
  rw[if_pos (by simp),dif_pos (by rw[List.length_map]; omega)]
  exact⟨_,rfl,rfl⟩
theorem putL1 {n:Nat}{a b y:WL rw_iiiiiiLu}{e d i:Int}(hk:FewK n y.l)(hy:y.l.length≤1000000)(hn:y.l.length<n):∃ M,qri_ n a b e d i y (y.l.length:Int) ([],0)=some M∧M.map vw=y.l.map fun r=>mvK (aft e d) (vw r):=by
 obtain⟨M,h,hM⟩:=q0h_ (B:=qhc_ n a b e d i y (y.l.length:Int)) vw (fun j=>mvK (aft e d) (vw (y.l.getD j d8))) y.l.length 0
  (fun j acc hj hacc=>by
   obtain⟨hf1,hf2⟩:=fewD hk hj
   obtain⟨k,g1,g2⟩:=each1 (e:=e) (b:=d) hf1 hf2
   refine⟨rk (y.l.getD j d8) k,vw_rk g2,?_⟩
   ·unfold qhc_
    dsimp only
    rw[if_pos (by omega),if_pos (by omega),Int.toNat_natCast]
    dsimp only[Option.bind_some]
    unfold qiy_
    rw[show qdu_ n (y.l.getD j (0,0,0,0,0,0,nl0,0)).2.2.2.2.2.2.1 e d=some k from g1]
    dsimp only[Option.bind_some]
    rw[if_pos (by omega),w64_inc (by omega)]
    rfl)
  (fun acc=>by
   unfold qhc_
   dsimp only
   rw[if_neg (by omega)]) n [] (Nat.zero_le _) hn
 rw[List.nil_append] at h
 exact⟨M,h,by rw[hM]; exact qkg_ (f:=fun r=>mvK (aft e d) (vw r))⟩
theorem putL2 {n:Nat}{a y:WL rw_iiiiiiLu}{e d i:Int}{acc:List P8}(hk:FewK n y.l)(hy:y.l.length≤1000000)(hn:y.l.length<n)(ha:acc.length≤1000000):∃ M,qrh_ n a e d i y (y.l.length:Int) (acc,0)=some (acc++M)∧M.map vw=y.l.map fun r=>mvK (ins i) (vw r):=by
 obtain⟨M,h,hM⟩:=q0h_ (B:=qhb_ n a e d i y (y.l.length:Int)) vw (fun j=>mvK (ins i) (vw (y.l.getD j d8))) y.l.length 1000000
  (fun j acc hj hacc=>by
   obtain⟨hf1,hf2⟩:=fewD hk hj
   obtain⟨k,g1,g2⟩:=each2 (i:=i) hf1 hf2
   refine⟨rk (y.l.getD j d8) k,vw_rk g2,?_⟩
   ·unfold qhb_
    dsimp only
    rw[if_pos (by omega),if_pos (by omega),Int.toNat_natCast]
    dsimp only[Option.bind_some]
    unfold qnq_
    rw[show qev_ n (y.l.getD j (0,0,0,0,0,0,nl0,0)).2.2.2.2.2.2.1 i=some k from g1]
    dsimp only[Option.bind_some]
    rw[if_pos (by omega),w64_inc (by omega)]
    rfl)
  (fun acc=>by
   unfold qhb_
   dsimp only
   rw[if_neg (by omega)]) n acc ha hn
 exact⟨M,h,by rw[hM]; exact qkg_ (f:=fun r=>mvK (ins i) (vw r))⟩
theorem putL3 {n:Nat}{y:WL rw_iiiiiiLu}{e d:Int}{acc:List P8}(hk:FewK n y.l)(hy:y.l.length≤1000000)(hn:y.l.length<n)(ha:acc.length≤2000000):∃ M,qrg_ n e d y (y.l.length:Int) (acc,0)=some (acc++M)∧M.map vw=y.l.map fun r=>mvK (aft e d) (vw r):=by
 obtain⟨M,h,hM⟩:=q0h_ (B:=qha_ n e d y (y.l.length:Int)) vw (fun j=>mvK (aft e d) (vw (y.l.getD j d8))) y.l.length 2000000
  (fun j acc hj hacc=>by
   obtain⟨hf1,hf2⟩:=fewD hk hj
   obtain⟨k,g1,g2⟩:=each1 (e:=e) (b:=d) hf1 hf2
   refine⟨rk (y.l.getD j d8) k,vw_rk g2,?_⟩
   ·unfold qha_
    dsimp only
    rw[if_pos (by omega),if_pos (by omega),Int.toNat_natCast]
    dsimp only[Option.bind_some]
    unfold qiy_
    rw[show qdu_ n (y.l.getD j (0,0,0,0,0,0,nl0,0)).2.2.2.2.2.2.1 e d=some k from g1]
    dsimp only[Option.bind_some]
    rw[if_pos (by omega),w64_inc (by omega)]
    rfl)
  (fun acc=>by
   unfold qha_
   dsimp only
   rw[if_neg (by omega)]) n acc ha hn
 exact⟨M,h,by rw[hM]; exact qkg_ (f:=fun r=>mvK (aft e d) (vw r))⟩
def fitR (p q:P8):Bool:=p.1 == q.1&&p.2.1 == q.2.1&&p.2.2.1 == q.2.2.1&&p.2.2.2.2.1 == q.2.2.2.2.1
theorem fits_ok {n:Nat}{p q:P8}:qix_ n p.1 p.2.1 p.2.2.1 p.2.2.2.1 p.2.2.2.2.1 p.2.2.2.2.2.1 p.2.2.2.2.2.2.1 p.2.2.2.2.2.2.2 q.1 q.2.1 q.2.2.1 q.2.2.2.1 q.2.2.2.2.1 q.2.2.2.2.2.1 q.2.2.2.2.2.2.1 q.2.2.2.2.2.2.2=some (fitR p q):=by
 unfold qix_ fitR
 by_cases h1:p.1=q.1<;>by_cases h2:p.2.1=q.2.1<;>by_cases h3:p.2.2.1=q.2.2.1<;>by_cases h4:p.2.2.2.2.1=q.2.2.2.2.1<;>simp[h1,h2,h3,h4]
theorem pEnd {n i e:Nat}{x:WL rw_iiiiiiLu}(hn:x.l.length<n)(hL:x.l.length≤1000000)(h:KsOf x i 0 (i+1) (atOf x i) e)(hi:i<x.l.length)(he:e≤x.l.length):qil_ n x (i:Int)=some (e:Int):=@prgEnd _ ⟨x⟩ n hn hL i e h hi he
theorem put_ok {n i e:Nat}{x o:WL rw_iiiiiiLu}(hT:TreeOf x)(hO:TreeOf o)(hx:x.l.length≤500)(ho:o.l.length≤500)(hn:2000<n)(hi:i<x.l.length)(he:KsOf x i 0 (i+1) (atOf x i) e)(hel:e≤x.l.length)(hf:fitR (x.l.getD i d8) (o.l.getD 0 d8)=true) :
  ∃ M,qmg_ n x (i:Int) o=some (.inr M)∧M.map vw=(x.l.take i).map (fun r=>mvK (aft e (o.l.length-(e-i))) (vw r))++o.l.map (fun r=>mvK (ins i) (vw r))++(x.l.drop e).map (fun r=>mvK (aft e (o.l.length-(e-i))) (vw r)):=by
 have hlt:=@Ks.lt _ ⟨x⟩ _ _ _ _ _ he
 have hpo:=@Tree.pos _ ⟨o⟩ hO
 have kx:=@few_of _ ⟨x⟩ hT n (by show x.l.length<n; omega)
 have ko:=@few_of _ ⟨o⟩ hO n (by show o.l.length<n; omega)
 unfold qmg_
 rw[chk hT (by omega)]
 try dsimp only[Option.bind_some]
 rw[if_pos rfl,chk hO (by omega)]
 try dsimp only[Option.bind_some]
 rw[if_pos rfl,if_neg (by omega),if_neg (by omega),if_pos (by omega)]
 try dsimp only[Option.bind_some]
 have hpo:0<o.l.length:=hpo
 rw[if_pos (by omega)]
 try dsimp only[Option.bind_some]
 rw[fits_ok]
 try dsimp only[Option.bind_some]
 have hf:fitR (x.l.getD i (0,0,0,0,0,0,nl0,0)) (o.l.getD ((0:Int)).toNat (0,0,0,0,0,0,nl0,0))=true:=hf
 rw[if_pos (show fitR (x.l.getD ((i:Nat):Int).toNat (0,0,0,0,0,0,nl0,0)) (o.l.getD ((0:Int)).toNat (0,0,0,0,0,0,nl0,0))=true from hf),pEnd (by omega) (by omega) he hi hel]
 try dsimp only[Option.bind_some]
 rw[qy6_ (x:=(e:Int)-i) (by omega) (by omega),qy6_ (x:=(o.l.length:Int)-_) (by omega) (by omega),qy6_ (x:=(x.l.length:Int)+_) (by omega) (by omega)]
 rw[if_neg (by omega),if_pos (by omega),if_pos (by omega),if_pos (by omega)]
 rw[dif_pos (show 0≤((i:Nat):Int).toNat∧((i:Nat):Int).toNat≤x.l.length by omega)]
 obtain⟨M1,g1,e1⟩:=putL1 (n:=n) (a:=x) (b:=o) (y:=wlSub rwf_iiiiiiLu x 0 ((i:Nat):Int).toNat (by omega)) (e:=(e:Int)) (d:=(o.l.length:Int)-((e:Int)-i)) (i:=(i:Int))
  (fun r hr=>kx r (List.mem_of_mem_take hr)) (by show (List.take _ (List.drop 0 x.l)).length≤_; simp; omega) (by show (List.take _ (List.drop 0 x.l)).length<_; simp; omega)
 rw[g1]
 try dsimp only[Option.bind_some]
 have hM1:M1.length≤1000000:=by
  have:=congrArg List.length e1
  rw[List.length_map,List.length_map] at this
  rw[this]
  show (List.take _ (List.drop 0 x.l)).length≤_
  simp; omega
 obtain⟨M2,g2,e2⟩:=putL2 (n:=n) (a:=x) (y:=o) (e:=(e:Int)) (d:=(o.l.length:Int)-((e:Int)-i)) (i:=(i:Int)) (acc:=M1) ko (by omega) (by omega) hM1
 rw[g2]
 try dsimp only[Option.bind_some]
 have hM2:M2.length≤1000000:=by
  have:=congrArg List.length e2
  rw[List.length_map,List.length_map] at this
  omega
 rw[if_pos (by omega),dif_pos (show ((e:Nat):Int).toNat≤x.l.length∧x.l.length≤x.l.length by omega)]
 obtain⟨M3,g3,e3⟩:=putL3 (n:=n) (y:=wlSub rwf_iiiiiiLu x ((e:Nat):Int).toNat x.l.length (by omega)) (e:=(e:Int)) (d:=(o.l.length:Int)-((e:Int)-i)) (acc:=M1++M2)
  (fun r hr=>kx r (List.mem_of_mem_drop (List.mem_of_mem_take hr))) (by show (List.take _ (List.drop _ x.l)).length≤_; simp; omega) (by show (List.take _ (List.drop _ x.l)).length<_; simp; omega) (by rw[List.length_append]; omega)
 rw[g3]
 try dsimp only[Option.bind_some]
 refine⟨_,rfl,?_⟩
 have l1:(wlSub rwf_iiiiiiLu x 0 ((i:Nat):Int).toNat (by omega)).l=x.l.take i:=by
  show (x.l.drop 0).take (((i:Nat):Int).toNat-0)=_
  rw[List.drop_zero,Int.toNat_natCast,Nat.sub_zero]
 have l3:(wlSub rwf_iiiiiiLu x ((e:Nat):Int).toNat x.l.length (by omega)).l=x.l.drop e:=by
  show (x.l.drop ((e:Nat):Int).toNat).take (x.l.length-((e:Nat):Int).toNat)=_
  rw[Int.toNat_natCast,List.take_of_length_le (by simp)]
 rw[List.map_append,List.map_append,e1,e2,e3,l1,l3]


def SameB (i:Int)(p q:P8):Prop:=q.1=p.1∧q.2.1=p.2.1∧q.2.2.1=p.2.2.1∧q.2.2.2.1=p.2.2.2.1∧q.2.2.2.2.1=p.2.2.2.2.1∧q.2.2.2.2.2.1=p.2.2.2.2.2.1∧q.2.2.2.2.2.2.1.l=p.2.2.2.2.2.2.1.l.map (fun v=>v-i)
structure Shf (x y:WL rw_iiiiiiLu) (i E:Nat):Prop where
 len:y.l.length=E-i
 row:∀ j,i≤j→j<E→SameB i (x.l.getD j d8) (y.l.getD (j-i) d8)
theorem Shf.kids {x y:WL rw_iiiiiiLu}{i E j:Nat}(h:Shf x y i E)(h1:i≤j)(h2:j<E):@kd _ ⟨y⟩ (j-i)=(@kd _ ⟨x⟩ j).map (fun v=>v-(i:Int)):=(h.row j h1 h2).2.2.2.2.2.2
theorem Shf.at {x y:WL rw_iiiiiiLu}{i E j:Nat}(h:Shf x y i E)(h1:i≤j)(h2:j<E):atOf y (j-i)=atOf x j:=(h.row j h1 h2).2.2.1
theorem Shf.to {x y:WL rw_iiiiiiLu}{i E j:Nat}(h:Shf x y i E)(h1:i≤j)(h2:j<E):@toF _ ⟨y⟩ (j-i)=@toF _ ⟨x⟩ j:=(h.row j h1 h2).2.2.2.2.1
theorem Shf.ks {x y:WL rw_iiiiiiLu}{i E p k next e:Nat}{a:Int}(hS:Shf x y i E)(hE:E≤x.l.length)(hk:KsOf x p k next a e):i≤p→p<E→e≤E→i≤next→KsOf y (p-i) k (next-i) a (e-i):=by
 have hk':@Ks _ ⟨x⟩ p k next a e:=hk
 clear hk
 induction hk' with
 | @done p k next a hk ha=>
  intro h1 h2 h3 h4
  exact @Ks.done _ ⟨y⟩ _ _ _ _ (by rw[hS.kids h1 h2,List.length_map]; exact hk) (by rw[hS.to h1 h2]; exact ha)
 | @kid p k next e' e a hk hv hn ha c1 c2 ih1 ih2=>
  intro h1 h2 h3 h4
  have l1:=@Ks.lt _ ⟨x⟩ _ _ _ _ _ c1
  have l2:=@Ks.lt _ ⟨x⟩ _ _ _ _ _ c2
  have q1:=ih1 h4 (by omega) (by omega) (by omega)
  have q2:=ih2 h1 h2 h3 (by omega)
  refine @Ks.kid _ ⟨y⟩ _ _ _ (e' - i) _ _ ?_ ?_ ?_ ?_ ?_ ?_
  ·rw[hS.kids h1 h2,List.length_map]; exact hk
  ·rw[hS.kids h1 h2]
   have:((@kd _ ⟨x⟩ p).map (fun v=>v-(i:Int))).getD k 0=(@kd _ ⟨x⟩ p).getD k 0-(i:Int):=by
    simp[List.getD_eq_getElem?_getD,hk]
   rw[this,hv]; omega
  ·show next-i<y.l.length
   rw[hS.len]; omega
  ·have g:@atF _ ⟨y⟩ (next-i)=@atF _ ⟨x⟩ next:=hS.at h4 (by omega)
   rw[g]; exact ha
  ·have g:@atF _ ⟨y⟩ (next-i)=@atF _ ⟨x⟩ next:=hS.at h4 (by omega)
   rw[g,show next-i+1=next+1-i by omega]; exact q1
  ·rw[hS.to h4 (by omega)]; exact q2
theorem Shf.tree {x y:WL rw_iiiiiiLu}{i E:Nat}(hS:Shf x y i E)(hT:TreeOf x)(hi:i<E)(hE:E≤x.l.length)(hk:KsOf x i 0 (i+1) (atOf x i) E):TreeOf y:=by
 have hmax:x.l.length≤524288:=@Tree.max _ ⟨x⟩ hT
 have hl:=hS.len
 refine @Tree.mk _ ⟨y⟩ (by show 0<y.l.length; omega) (by show y.l.length≤_; omega) (fun j hj=>?_) (fun j h0 hj=>?_) ?_
 ·have hj:j<y.l.length:=hj
  obtain⟨r1,r2,r3,r4,r5,r6,r7⟩:=hS.row (i+j) (by omega) (by omega)
  rw[show i+j-i=j by omega] at r1 r2 r3 r4 r5 r6 r7
  have h:SP (x.l.getD (i+j) d8).2.1 (x.l.getD (i+j) d8).2.2.1 (x.l.getD (i+j) d8).2.2.2.1 (x.l.getD (i+j) d8).2.2.2.2.1 (x.l.getD (i+j) d8).2.2.2.2.2.1 (x.l.getD (i+j) d8).2.2.2.2.2.2.1.l.length:=@Tree.sp _ ⟨x⟩ hT (i+j) (by show i+j<x.l.length; omega)
  show SP (y.l.getD j d8).2.1 (y.l.getD j d8).2.2.1 (y.l.getD j d8).2.2.2.1 (y.l.getD j d8).2.2.2.2.1 (y.l.getD j d8).2.2.2.2.2.1 (y.l.getD j d8).2.2.2.2.2.2.1.l.length
  rw[r2,r3,r4,r5,r6,r7,List.length_map]
  exact h
 ·have hj:j<y.l.length:=hj
  obtain⟨r1,r2,-⟩:=hS.row (i+j) (by omega) (by omega)
  rw[show i+j-i=j by omega] at r2
  show (y.l.getD j d8).2.1 ≠ 1
  rw[r2]
  exact @Tree.root _ ⟨x⟩ hT (i+j) (by omega) (by show i+j<x.l.length; omega)
 ·have h:=hS.ks hE hk (Nat.le_refl i) hi (Nat.le_refl E) (by omega)
  rw[Nat.sub_self,show i+1-i=1 by omega,←hl] at h
  have ha:=hS.at (Nat.le_refl i) hi
  rw[Nat.sub_self] at ha
  rw[←ha] at h
  exact h
theorem Tree.whole {x:WL rw_iiiiiiLu}(hT:TreeOf x):KsOf x 0 0 (0+1) (atOf x 0) x.l.length:=@Tree.ks _ ⟨x⟩ hT
theorem TreeOf.alike {x y:WL rw_iiiiiiLu}(hT:TreeOf x)(hl:y.l.length=x.l.length)(h:∀ j,j<x.l.length→SameB 0 (x.l.getD j d8) (y.l.getD j d8)):TreeOf y:=by
 have hp:0<x.l.length:=@Tree.pos _ ⟨x⟩ hT
 exact Shf.tree (i:=0) (E:=x.l.length) ⟨hl,fun j _ h2=>h j h2⟩ hT hp (Nat.le_refl _) (Tree.whole hT)
theorem bare_true (n:Nat)(a0 a1 a2 a3 a4 a5:Int)(a6:NL)(a7:Int)(h:SP a1 a2 a3 a4 a5 a6.l.length):q9_ n a0 a1 a2 a3 a4 a5 a6 a7=some true:=by
 obtain⟨h1,h2,h3,h4,h5,h6,h7,h8,h9⟩:=h
 have leaf:=@leaf_ok _ ⟨(wl0:WL rw_iiiiiiLu)⟩ n
 unfold q9_
 rw[if_neg (by omega),if_neg (by omega),if_neg (by omega),if_neg (by omega),if_neg (by omega)]
 have hc:a1=1∨a1=2∨a1=3∨a1=4∨a1=5∨a1=6:=by omega
 rcases hc with rfl | rfl | rfl | rfl | rfl | rfl
 ·have g:=h7 (by omega)
  simp only[leaf,Option.bind_some,Int.reduceEq,reduceIte,g,Bool.false_eq_true]
 ·have g:=h7 (by omega)
  simp only[leaf,Option.bind_some,Int.reduceEq,reduceIte,g,Bool.false_eq_true]
 ·have g:=h6 (by omega)
  have l:=h9 (by omega) (by omega)
  simp only[leaf,Option.bind_some,Int.reduceEq,reduceIte,if_neg (show ¬ a3<a2 by omega),if_neg (show ¬ a3 > a4 by omega),l]
  rfl
 ·have g:=h7 (by omega)
  have g8:=h8 rfl
  have l:=h9 (by omega) (by omega)
  simp only[leaf,Option.bind_some,Int.reduceEq,reduceIte,g,g8,l]
  rfl
 ·have g:=h6 (by omega)
  have l:=h9 (by omega) (by omega)
  simp only[leaf,Option.bind_some,Int.reduceEq,reduceIte,if_neg (show ¬ a3<a2 by omega),if_neg (show ¬ a3 > a4 by omega),l]
  rfl
 ·have g:=h6 (by omega)
  have l:=h9 (by omega) (by omega)
  simp only[leaf,Option.bind_some,Int.reduceEq,reduceIte,if_neg (show ¬ a3<a2 by omega),if_neg (show ¬ a3 > a4 by omega),l]
  rfl
theorem qwj_ {n:Nat}{y:WL rw_iiiiiiLu}(hT:TreeOf y)(hn:y.l.length+y.l.length+20<n):qe_ n y=some 0:=by
 have hmax:y.l.length≤524288:=@Tree.max _ ⟨y⟩ hT
 have hp:0<y.l.length:=@Tree.pos _ ⟨y⟩ hT
 obtain⟨r,q1,q2⟩:=hoare (B:=qq_ n y) (σ:=Unit) (fun _ i=>i) (fun _ _=>True) (fun r=>r=.inr ()) y.l.length
  (fun j _ hj _=>by
   refine .inl ⟨(),trivial,?_⟩
   have hb:=bare_true n (y.l.getD j d8).1 (y.l.getD j d8).2.1 (y.l.getD j d8).2.2.1 (y.l.getD j d8).2.2.2.1 (y.l.getD j d8).2.2.2.2.1 (y.l.getD j d8).2.2.2.2.2.1 (y.l.getD j d8).2.2.2.2.2.2.1 (y.l.getD j d8).2.2.2.2.2.2.2 (@Tree.sp _ ⟨y⟩ hT j hj)
   unfold qq_
   dsimp only
   rw[if_pos (by omega),if_pos (by omega),Int.toNat_natCast]
   dsimp only[Option.bind_some]
   rw[show q9_ n (y.l.getD j (0,0,0,0,0,0,nl0,0)).1 (y.l.getD j (0,0,0,0,0,0,nl0,0)).2.1 (y.l.getD j (0,0,0,0,0,0,nl0,0)).2.2.1 (y.l.getD j (0,0,0,0,0,0,nl0,0)).2.2.2.1 (y.l.getD j (0,0,0,0,0,0,nl0,0)).2.2.2.2.1 (y.l.getD j (0,0,0,0,0,0,nl0,0)).2.2.2.2.2.1 (y.l.getD j (0,0,0,0,0,0,nl0,0)).2.2.2.2.2.2.1 (y.l.getD j (0,0,0,0,0,0,nl0,0)).2.2.2.2.2.2.2=some true from hb]
   dsimp only[Option.bind_some]
   rw[if_pos rfl,w64_inc (by omega)]
   by_cases c:(j:Int) > 0
   ·have g:(y.l.getD j (0,0,0,0,0,0,nl0,0)).2.1 ≠ 1:=@Tree.root _ ⟨y⟩ hT j (by omega) hj
    rw[if_pos c,if_neg g]
   ·rw[if_neg c])
  (fun _ _=>by
   refine⟨.inr (),rfl,?_⟩
   unfold qq_
   dsimp only
   rw[if_neg (by omega)])
  n 0 () (Nat.zero_le _) trivial (by omega)
 have q2:qdb_ n y 0=some r:=q2
 have he:qd_ n y 0=some (y.l.length:Int):=@endOf _ ⟨y⟩ y.l.length 0 y.l.length (fun j=>@Tree.few _ ⟨y⟩ hT j) (Tree.whole hT) hp n (by show y.l.length-0+y.l.length+10<n; omega)
 unfold qe_
 rw[if_neg (by omega),q2,q1]
 dsimp only
 rw[if_neg (by omega),he]
 dsimp only[Option.bind_some]
 rw[if_pos rfl]


theorem takeS {L:List Int}{q:Nat}(h:q<L.length):L.take (q+1)=L.take q ++ [L.getD q 0]:=by
 rw[List.take_add_one,List.getD_eq_getElem?_getD,List.getElem?_eq_getElem h]; rfl
theorem movedIn {n i:Nat}{by_:Int}{x:WL rw_iiiiiiLu}{r:P8}{acc:List P8}(hi:i<x.l.length)(hr:x.l.getD i d8=r)(hk:r.2.2.2.2.2.2.1.l.length≤1000000)(hn:r.2.2.2.2.2.2.1.l.length<n) :
  ∃ k,qek_ n x by_ (i:Int) r.1 r.2.1 r.2.2.1 r.2.2.2.1 r.2.2.2.2.1 r.2.2.2.2.2.1 r.2.2.2.2.2.2.2 (acc,[],0)=some (acc,k)∧k.l=r.2.2.2.2.2.2.1.l.map (ins by_):=by
 subst hr
 obtain⟨q,⟨k,rfl,hq⟩,q2⟩:=hoare (B:=qbr_ n x by_ (i:Int) (x.l.getD i d8).1 (x.l.getD i d8).2.1 (x.l.getD i d8).2.2.1 (x.l.getD i d8).2.2.2.1 (x.l.getD i d8).2.2.2.2.1 (x.l.getD i d8).2.2.2.2.2.1 (x.l.getD i d8).2.2.2.2.2.2.2) (σ:=List Int) (fun L j=>(acc,L,j)) (fun j L=>L=((x.l.getD i d8).2.2.2.2.2.2.1.l.take j).map (ins by_)) (fun q=>∃ k:NL,q=(acc,k)∧k.l=(x.l.getD i d8).2.2.2.2.2.2.1.l.map (ins by_)) (x.l.getD i d8).2.2.2.2.2.2.1.l.length
  (fun j L hj hL=>by
   refine .inl ⟨L ++ [ins by_ ((x.l.getD i d8).2.2.2.2.2.2.1.l.getD j 0)],?_,?_⟩
   ·rw[hL,takeS hj,List.map_append]; rfl
   ·have hlen:L.length=j:=by rw[hL,List.length_map,List.length_take]; omega
    have hj:j<(x.l.getD i (0,0,0,0,0,0,nl0,0)).2.2.2.2.2.2.1.l.length:=hj
    have hk:(x.l.getD i (0,0,0,0,0,0,nl0,0)).2.2.2.2.2.2.1.l.length≤1000000:=hk
    unfold qbr_
    dsimp only
    cases acc with
    | nil=>
     cases L with
     | nil=>
      dsimp only
      rw[if_pos (by omega),Int.toNat_natCast]
      try dsimp only[Option.bind_some]
      rw[if_pos (by omega),if_pos (by omega),Int.toNat_natCast,if_pos hj]
      try dsimp only[Option.bind_some]
      rw[w64_inc (by omega)]
      rfl
     | cons a t=>
      dsimp only
      rw[if_pos (by omega),Int.toNat_natCast]
      try dsimp only[Option.bind_some]
      rw[if_pos (by omega),if_pos (by omega),Int.toNat_natCast,if_pos hj]
      try dsimp only[Option.bind_some]
      rw[if_pos (by omega),w64_inc (by omega)]
      rfl
    | cons b u=>
     cases L with
     | nil=>
      dsimp only
      rw[if_pos (by omega),Int.toNat_natCast]
      try dsimp only[Option.bind_some]
      rw[if_pos (by omega),if_pos (by omega),Int.toNat_natCast,if_pos hj]
      try dsimp only[Option.bind_some]
      rw[w64_inc (by omega)]
      rfl
     | cons a t=>
      dsimp only
      rw[if_pos (by omega),Int.toNat_natCast]
      try dsimp only[Option.bind_some]
      rw[if_pos (by omega),if_pos (by omega),Int.toNat_natCast,if_pos hj]
      try dsimp only[Option.bind_some]
      rw[if_pos (by omega),w64_inc (by omega)]
      rfl)
  (fun L hL=>by
   rw[List.take_length] at hL
   have hk:(x.l.getD i (0,0,0,0,0,0,nl0,0)).2.2.2.2.2.2.1.l.length≤1000000:=hk
   have hlen:L.length=(x.l.getD i (0,0,0,0,0,0,nl0,0)).2.2.2.2.2.2.1.l.length:=by rw[hL,List.length_map]; rfl
   unfold qbr_
   dsimp only
   cases acc with
   | nil=>
    cases L with
    | nil=>
     dsimp only
     rw[if_pos (by omega),Int.toNat_natCast]
     try dsimp only[Option.bind_some]
     refine⟨_,⟨nl0,rfl,hL⟩,?_⟩
     rw[if_neg (by show ¬ (((x.l.getD i (0,0,0,0,0,0,nl0,0)).2.2.2.2.2.2.1.l.length:Nat):Int)<(((x.l.getD i (0,0,0,0,0,0,nl0,0)).2.2.2.2.2.2.1.l.length:Nat):Int); omega)]
    | cons a t=>
     dsimp only
     rw[if_pos (by omega),Int.toNat_natCast]
     try dsimp only[Option.bind_some]
     refine⟨_,⟨frzL (a::t) (by omega),rfl,hL⟩,?_⟩
     rw[if_neg (by show ¬ (((x.l.getD i (0,0,0,0,0,0,nl0,0)).2.2.2.2.2.2.1.l.length:Nat):Int)<(((x.l.getD i (0,0,0,0,0,0,nl0,0)).2.2.2.2.2.2.1.l.length:Nat):Int); omega),dif_pos (by omega)]
   | cons b u=>
    cases L with
    | nil=>
     dsimp only
     rw[if_pos (by omega),Int.toNat_natCast]
     try dsimp only[Option.bind_some]
     refine⟨_,⟨nl0,rfl,hL⟩,?_⟩
     rw[if_neg (by show ¬ (((x.l.getD i (0,0,0,0,0,0,nl0,0)).2.2.2.2.2.2.1.l.length:Nat):Int)<(((x.l.getD i (0,0,0,0,0,0,nl0,0)).2.2.2.2.2.2.1.l.length:Nat):Int); omega)]
    | cons a t=>
     dsimp only
     rw[if_pos (by omega),Int.toNat_natCast]
     try dsimp only[Option.bind_some]
     refine⟨_,⟨frzL (a::t) (by omega),rfl,hL⟩,?_⟩
     rw[if_neg (by show ¬ (((x.l.getD i (0,0,0,0,0,0,nl0,0)).2.2.2.2.2.2.1.l.length:Nat):Int)<(((x.l.getD i (0,0,0,0,0,0,nl0,0)).2.2.2.2.2.2.1.l.length:Nat):Int); omega),dif_pos (by omega)])
  n 0 [] (Nat.zero_le _) (by simp) (by omega)
 exact⟨k,q2,hq⟩
theorem mv_id {f:Int→Int}{v:V8}(h:∀ k∈v.2.2.2.2.2.2.1,f k=k):mvK f v=v:=by
 obtain⟨a,b,c,d,e,g,l,m⟩:=v
 have:l.map f=l:=by
  conv=>rhs; rw[←List.map_id l]
  exact List.map_congr_left h
 show (a,b,c,d,e,g,l.map f,m)=_
 rw[this]
theorem same2 {n:Nat}{a b:WL rw_iiiiiiLu}{i c1 c2 c3 c4 c5 c6 c7 d1 d2 d3 d4 d5 d6 d7:Int}{k l:NL}(h:k.l=l.l)(hk:k.l.length≤1000000)(hn:k.l.length<n):qfk_ n a b i c1 c2 c3 c4 c5 c6 k c7 d1 d2 d3 d4 d5 d6 l d7 0=some (.inr ()):=by
 obtain⟨q,rfl,q2⟩:=hoare (B:=qb7_ n a b i c1 c2 c3 c4 c5 c6 k c7 d1 d2 d3 d4 d5 d6 l d7) (σ:=Unit) (fun _ j=>j) (fun _ _=>True) (fun q=>q=.inr ()) k.l.length
  (fun j _ hj _=>by
   refine .inl ⟨(),trivial,?_⟩
   unfold qb7_
   dsimp only
   rw[←h,if_pos (by omega),if_pos (by omega),if_pos (by omega),Int.toNat_natCast]
   try dsimp only[Option.bind_some]
   rw[if_pos (by omega),if_pos hj]
   try dsimp only[Option.bind_some]
   rw[if_pos rfl,w64_inc (by omega)])
  (fun _ _=>⟨_,rfl,by unfold qb7_; dsimp only; rw[if_neg (by omega)]⟩)
  n 0 () (Nat.zero_le _) trivial (by omega)
 exact q2
theorem same_ok {n:Nat}{a b:WL rw_iiiiiiLu}(h:a.l.map vw=b.l.map vw)(ha:a.l.length≤1000000)(hk:FewK n a.l)(hn:a.l.length<n):qbi_ n a b=some true:=by
 have hl:a.l.length=b.l.length:=by simpa using congrArg List.length h
 have hrow:∀ j,j<a.l.length→vw (a.l.getD j d8)=vw (b.l.getD j d8):=fun j hj=>by
  have:=congrArg (fun L=>L.getD j (vw d8)) h
  simpa [List.getD_eq_getElem?_getD,hj,hl ▸ hj] using this
 obtain⟨q,rfl,q2⟩:=hoare (B:=qb9_ n a b) (σ:=Unit) (fun _ j=>j) (fun _ _=>True) (fun q=>q=.inr ()) a.l.length
  (fun j _ hj _=>by
   refine .inl ⟨(),trivial,?_⟩
   obtain⟨hf1,hf2⟩:=fewD hk hj
   have hv:=hrow j hj
   simp only[vw,Prod.mk.injEq] at hv
   obtain⟨e1,e2,e3,e4,e5,e6,e7,e8⟩:=hv
   unfold qb9_
   dsimp only
   rw[if_pos (by omega),if_pos (by omega),Int.toNat_natCast]
   try dsimp only[Option.bind_some]
   rw[if_pos (by omega)]
   try dsimp only[Option.bind_some]
   erw [if_pos e1,if_pos e2,if_pos e3,if_pos e4,if_pos e5,if_pos e6,if_pos e8,if_pos (by rw[show (a.l.getD j (0,0,0,0,0,0,nl0,0)).2.2.2.2.2.2.1.l=_ from e7]; rfl),same2 e7 hf1 hf2]
   dsimp only
   rw[w64_inc (by omega)])
  (fun _ _=>⟨_,rfl,by unfold qb9_; dsimp only; rw[if_neg (by omega)]⟩)
  n 0 () (Nat.zero_le _) trivial (by omega)
 have q2:qfm_ n a b 0=some (.inr ()):=q2
 unfold qbi_
 rw[if_pos (by omega),q2]


theorem moved_ok {n:Nat}{by_:Int}{x:WL rw_iiiiiiLu}(hp:0<x.l.length)(hk:FewK n x.l)(hx:x.l.length≤1000000)(hn:x.l.length<n) :
  ∃ M,qf_ n x by_=some (.inr M)∧M.map vw=x.l.map fun r=>mvK (ins by_) (vw r):=by
 obtain⟨M,h,hM⟩:=q0h_ (B:=qz_ n x by_) vw (fun j=>mvK (ins by_) (vw (x.l.getD j d8))) x.l.length 0
  (fun j acc hj hacc=>by
   obtain⟨hf1,hf2⟩:=fewD hk hj
   obtain⟨k,g1,g2⟩:=movedIn (n:=n) (by_:=by_) (acc:=acc) hj rfl hf1 hf2
   refine⟨rk (x.l.getD j d8) k,vw_rk g2,?_⟩
   unfold qz_
   dsimp only
   cases acc with
   | nil=>
    dsimp only
    rw[if_pos (by omega),if_pos (by omega),Int.toNat_natCast]
    try dsimp only[Option.bind_some]
    erw [g1]
    try dsimp only[Option.bind_some]
    rw[w64_inc (by omega)]
    rfl
   | cons a t=>
    dsimp only
    rw[if_pos (by omega),if_pos (by omega),Int.toNat_natCast]
    try dsimp only[Option.bind_some]
    erw [g1]
    try dsimp only[Option.bind_some]
    rw[if_pos (by omega),w64_inc (by omega)]
    rfl)
  (fun acc=>by
   unfold qz_
   dsimp only
   cases acc with
   | nil=>dsimp only; rw[if_neg (by omega)]
   | cons a t=>dsimp only; rw[if_neg (by omega)]) n [] (Nat.zero_le _) hn
 rw[List.nil_append] at h
 have hM':M.map vw=x.l.map fun r=>mvK (ins by_) (vw r):=by rw[hM]; exact qkg_ (f:=fun r=>mvK (ins by_) (vw r))
 refine⟨M,?_,hM'⟩
 unfold qf_ qem_
 rw[h]
 try dsimp only[Option.bind_some]
 cases M with
 | nil=>
  have:=congrArg List.length hM'
  simp at this
  omega
 | cons a t=>rfl
def toS:List P8→Unit ⊕ List P8
 | []=>.inl ()
 | a::t=>.inr (a::t)
theorem moved_s {n:Nat}{by_:Int}{x:WL rw_iiiiiiLu}(hk:FewK n x.l)(hx:x.l.length≤1000000)(hn:x.l.length<n) :
  ∃ M,qf_ n x by_=some (toS M)∧M.map vw=x.l.map fun r=>mvK (ins by_) (vw r):=by
 obtain⟨M,h,hM⟩:=q0h_ (B:=qz_ n x by_) vw (fun j=>mvK (ins by_) (vw (x.l.getD j d8))) x.l.length 0
  (fun j acc hj hacc=>by
   obtain⟨hf1,hf2⟩:=fewD hk hj
   obtain⟨k,g1,g2⟩:=movedIn (n:=n) (by_:=by_) (acc:=acc) hj rfl hf1 hf2
   refine⟨rk (x.l.getD j d8) k,vw_rk g2,?_⟩
   unfold qz_
   dsimp only
   cases acc with
   | nil=>
    dsimp only
    rw[if_pos (by omega),if_pos (by omega),Int.toNat_natCast]
    try dsimp only[Option.bind_some]
    erw [g1]
    try dsimp only[Option.bind_some]
    rw[w64_inc (by omega)]
    rfl
   | cons a t=>
    dsimp only
    rw[if_pos (by omega),if_pos (by omega),Int.toNat_natCast]
    try dsimp only[Option.bind_some]
    erw [g1]
    try dsimp only[Option.bind_some]
    rw[if_pos (by omega),w64_inc (by omega)]
    rfl)
  (fun acc=>by
   unfold qz_
   dsimp only
   cases acc with
   | nil=>dsimp only; rw[if_neg (by omega)]
   | cons a t=>dsimp only; rw[if_neg (by omega)]) n [] (Nat.zero_le _) hn
 rw[List.nil_append] at h
 have hM':M.map vw=x.l.map fun r=>mvK (ins by_) (vw r):=by rw[hM]; exact qkg_ (f:=fun r=>mvK (ins by_) (vw r))
 have hl:M.length=x.l.length:=by simpa using congrArg List.length hM'
 refine⟨M,?_,hM'⟩
 unfold qf_ qem_
 rw[h]
 cases M<;>rfl
theorem copy_s {n:Nat}{x:WL rw_iiiiiiLu}(hk:FewK n x.l)(hx:x.l.length≤1000000)(hn:x.l.length<n) :
  ∃ M,qb2_ n x=some (toS M)∧M.map vw=x.l.map fun r=>mvK (ins 0) (vw r):=by
 obtain⟨M,h,hM⟩:=moved_s (by_:=0) hk hx hn
 refine⟨M,?_,hM⟩
 unfold qb2_
 rw[h]
 cases M<;>rfl
theorem sub_ok {n i e:Nat}{x:WL rw_iiiiiiLu}(hT:TreeOf x)(hi:i<x.l.length)(he:KsOf x i 0 (i+1) (atOf x i) e)(hel:e≤x.l.length)(hn:x.l.length+x.l.length+20<n) :
  ∃ z,qe3_ n x (i:Int)=some z∧z.l.map vw=((x.l.drop i).take (e-i)).map fun r=>mvK (ins (w64 (0-(i:Int)))) (vw r):=by
 have hmax:x.l.length≤524288:=@Tree.max _ ⟨x⟩ hT
 have hlt:i+1≤e:=@Ks.lt _ ⟨x⟩ _ _ _ _ _ he
 have hend:qd_ n x (i:Int)=some (e:Int):=@endOf _ ⟨x⟩ x.l.length i e (fun j=>@Tree.few _ ⟨x⟩ hT j) he hi n (by show x.l.length-i+x.l.length+10<n; omega)
 have hl:(wlSub rwf_iiiiiiLu x ((i:Nat):Int).toNat ((e:Nat):Int).toNat (by omega)).l=(x.l.drop i).take (e-i):=rfl
 have hll:(wlSub rwf_iiiiiiLu x ((i:Nat):Int).toNat ((e:Nat):Int).toNat (by omega)).l.length=e-i:=by rw[hl]; simp; omega
 have kx:=@few_of _ ⟨x⟩ hT n (by show x.l.length<n; omega)
 obtain⟨M,h,hM⟩:=moved_ok (n:=n) (x:=wlSub rwf_iiiiiiLu x ((i:Nat):Int).toNat ((e:Nat):Int).toNat (by omega)) (by_:=w64 (0-(i:Int))) (by omega) (fun r hr=>kx r (List.mem_of_mem_drop (List.mem_of_mem_take hr))) (by omega) (by omega)
 have hMl:M.length=e-i:=by have:=congrArg List.length hM; rw[List.length_map,List.length_map,hll] at this; exact this
 unfold qe3_ qd9_
 rw[qwj_ hT hn]
 try dsimp only[Option.bind_some]
 rw[if_pos rfl,if_pos (by omega),if_pos (by omega)]
 try dsimp only[Option.bind_some]
 rw[if_pos rfl,hend]
 try dsimp only[Option.bind_some]
 rw[if_pos (by omega),if_pos (by omega),dif_pos (by omega),h]
 dsimp only
 rw[dif_pos (by omega)]
 exact⟨_,rfl,hM⟩


theorem q0i_ {σ α:Type}{d:α}(f:σ→α→σ)(l:List α)(s:σ):(List.range l.length).foldl (fun s j=>f s (l.getD j d)) s=l.foldl f s:=by
 have h:(List.range l.length).map (fun j=>l.getD j d)=l:=by have:=qkg_ (f:=id) (d:=d) (l:=l); simpa using this
 conv=>rhs; rw[←h]
 rw[List.foldl_map]
def mt (r:P8):Int:=r.2.2.2.2.2.2.2
def orM (l:List P8):Int:=l.foldl (fun s r=>bOr .u64 s (mt r)) 0
theorem qxb_ {n a b:Nat}{x:WL rw_iiiiiiLu}(hab:a≤b)(hb:b≤x.l.length)(hL:x.l.length≤1000000)(hn:x.l.length<n):qcc_ n x (a:Int) (b:Int)=some (orM ((x.l.drop a).take (b-a))):=by
 unfold qcc_ qeh_ qkd_
 rw[if_pos (by omega),if_pos (by omega),dif_pos (show ((a:Nat):Int).toNat≤((b:Nat):Int).toNat∧((b:Nat):Int).toNat≤x.l.length by omega)]
 generalize hy:wlSub rwf_iiiiiiLu x ((a:Nat):Int).toNat ((b:Nat):Int).toNat (by omega)=y
 have hl:y.l=(x.l.drop a).take (b-a):=by
  rw[←hy]
  show (x.l.drop ((a:Nat):Int).toNat).take (((b:Nat):Int).toNat-((a:Nat):Int).toNat)=_
  rw[Int.toNat_natCast,Int.toNat_natCast]
 have hle:y.l.length≤x.l.length:=by rw[hl]; simp; omega
 have h:=foldLoop (B:=qed_ n x (a:Int) (b:Int) y (y.l.length:Int)) (fun s j=>bOr .u64 s (mt (y.l.getD j d8))) y.l.length
  (fun i s hi=>by
   unfold qed_
   dsimp only
   rw[if_pos (by omega),if_pos (by omega),Int.toNat_natCast]
   dsimp only[Option.bind_some]
   unfold qc5_ qic_
   dsimp only[Option.bind_some]
   rw[w64_inc (by omega)]
   rfl)
  (fun s=>by
   unfold qed_
   dsimp only
   rw[if_neg (by omega)]) n 0 (by omega)
 unfold qla_
 rw[h,q0i_ (fun s r=>bOr .u64 s (mt r)),hl]
 rfl
theorem has_ok {n i:Nat}{x:WL rw_iiiiiiLu}(hT:TreeOf x)(hn:x.l.length<n)(hi:i<x.l.length):qmh_ n x (i:Int)=some true:=by
 unfold qmh_
 rw[if_pos (by omega),if_pos (by omega),chk hT hn]
 try dsimp only[Option.bind_some]
 rw[if_pos rfl]
theorem tEnd {n i e:Nat}{x:WL rw_iiiiiiLu}(hT:TreeOf x)(hn:x.l.length<n)(hL:x.l.length≤1000000)(h:KsOf x i 0 (i+1) (atOf x i) e)(hi:i<x.l.length)(he:e≤x.l.length):qho_ n x (i:Int)=some (e:Int):=by
 unfold qho_
 rw[has_ok hT hn hi]
 try dsimp only[Option.bind_some]
 rw[if_pos rfl,pEnd hn hL h hi he]
 rfl
theorem sfits_ok {n i:Nat}{x o:WL rw_iiiiiiLu}(hi:i<x.l.length)(ho:0<o.l.length):qfu_ n x (i:Int) o=some (fitR (x.l.getD i d8) (o.l.getD 0 d8)):=by
 unfold qfu_
 rw[if_pos (by omega),if_pos (by omega),if_pos (by omega),Int.toNat_natCast]
 try dsimp only[Option.bind_some]
 rw[if_pos (by omega)]
 try dsimp only[Option.bind_some]
 rw[fits_ok]
 rfl
theorem par_ok {n:Nat}{x:WL rw_iiiiiiLu}(hT:TreeOf x)(hL:x.l.length≤500)(hn:2000<n):∃ y,qdz_ n x=some y∧y.l=@parL _ ⟨x⟩:=
 @prgPar _ ⟨x⟩ n x.l.length hT (fun j=>@Tree.few _ ⟨x⟩ hT j) (by show x.l.length+_<n; omega)
theorem par_lt {x:WL rw_iiiiiiLu}(hT:TreeOf x){i:Nat}(h0:0<i)(hi:i<x.l.length):∃ p:Nat,(@parL _ ⟨x⟩).getD i 0=(p:Int)∧p<i:=by
 have h:=@parL_ok _ ⟨x⟩ hT i h0 hi
 exact⟨((@parL _ ⟨x⟩).getD i 0).toNat,by omega,by omega⟩
def orR (r:P8)(b:Int):P8:=(r.1,r.2.1,r.2.2.1,r.2.2.2.1,r.2.2.2.2.1,r.2.2.2.2.2.1,r.2.2.2.2.2.2.1,bOr .u64 r.2.2.2.2.2.2.2 b)


def bt (v:Int)(k:Nat):Bool:=(BitVec.ofInt 64 v).getLsbD k
def Un (v:Int):Prop:=∃ m:BitVec 64,v=(m.toNat:Int)
theorem u64w (m:BitVec 64):IntKind.u64.wrap ((m.toNat:Nat):Int)=((m.toNat:Nat):Int):=IntWalk.u64_in _ (by have:=m.isLt; omega)
theorem ofI (m:BitVec 64):BitVec.ofInt 64 ((m.toNat:Nat):Int)=m:=by
 rw[BitVec.ofInt_natCast,BitVec.ofNat_toNat,BitVec.setWidth_eq]
theorem un_or {x y:Int}:Un (bOr .u64 x y):=⟨_,u64w _⟩
theorem bt_or {x y:Int}{k:Nat}:bt (bOr .u64 x y) k=(bt x k||bt y k):=by
 unfold bOr bt
 rw[show IntKind.u64.bits=64 from rfl,u64w,ofI,BitVec.getLsbD_or]
theorem bt_z {k:Nat}:bt 0 k=false:=by unfold bt; simp
theorem bt_fold {k:Nat}:∀ (l:List P8) (s:Int),(bt (l.foldl (fun s r=>bOr .u64 s (mt r)) s) k=true) ↔ (bt s k=true∨∃ r∈l,bt (mt r) k=true)
 | [],s=>by simp
 | r::l,s=>by
  rw[List.foldl_cons,bt_fold l,bt_or,Bool.or_eq_true]
  simp only[List.mem_cons]
  constructor
  ·rintro ((h | h) | ⟨q,h1,h2⟩)
   ·exact .inl h
   ·exact .inr ⟨r,.inl rfl,h⟩
   ·exact .inr ⟨q,.inr h1,h2⟩
  ·rintro (h | ⟨q,rfl | h1,h2⟩)
   ·exact .inl (.inl h)
   ·exact .inl (.inr h2)
   ·exact .inr ⟨q,h1,h2⟩
theorem bt_orM {l:List P8}{k:Nat}:(bt (orM l) k=true) ↔ ∃ r∈l,bt (mt r) k=true:=by
 unfold orM
 rw[bt_fold,bt_z]
 simp
def lefts (v:Int)(ds:List Int):Int:=ds.foldl (fun b s=>qoo_ .u64 b (shlV .u64 1 s)) v
theorem lefts_snoc {v s:Int}{ds:List Int}:lefts v (ds ++ [s])=qoo_ .u64 (lefts v ds) (shlV .u64 1 s):=by
 simp[lefts]
section
variable [Cur]

theorem sound_tells' (n:Nat)(a0 a1 a2 a3 a4 a5:Int)(a6:NL)(a7:Int)(o:Option Bool)(h:qet_ n a0 a1 a2 a3 a4 a5 a6 a7=o):o=some false∨(o=some true∧SP a1 a2 a3 a4 a5 a6.l.length):=by
 unfold qet_ at h
 by_cases c1:a2<0
 ·rw[if_pos c1] at h; exact .inl h.symm
 rw[if_neg c1] at h
 by_cases c2:a2 > a4
 ·rw[if_pos c2] at h; exact .inl h.symm
 rw[if_neg c2] at h
 by_cases c3:a5≤a2
 ·rw[if_pos c3] at h; exact .inl h.symm
 rw[if_neg c3] at h
 have leaf:∀ (h:(if ((a6.l.length:Nat):Int)=0 then some true else some false)=o),o=some false∨(o=some true∧a6.l.length=0):=by
  intro h
  by_cases c:((a6.l.length:Nat):Int)=0
  ·rw[if_pos c] at h; exact .inr ⟨h.symm,by omega⟩
  ·rw[if_neg c] at h; exact .inl h.symm
 have tok:∀ (k:a1=3∨a1=5∨a1=6) (h:(if a3 ≥ a2 then (if a3≤a4 then (if ((a6.l.length:Nat):Int)=0 then some true else some false) else some false) else some false)=o),o=some false∨(o=some true∧SP a1 a2 a3 a4 a5 a6.l.length):=by
  intro k h
  by_cases d1:a3 ≥ a2
  ·rw[if_pos d1] at h
   by_cases d2:a3≤a4
   ·rw[if_pos d2] at h
    rcases leaf h with h | ⟨h,hl⟩
    ·exact .inl h
    ·exact .inr ⟨h,by omega,by omega,by omega,by omega,by omega,fun _=>by omega,fun _=>by omega,fun _=>by omega,fun _ _=>hl⟩
   ·rw[if_neg d2] at h; exact .inl h.symm
  ·rw[if_neg d1] at h; exact .inl h.symm
 by_cases k1:a1=1
 ·rw[if_pos k1] at h
  by_cases d:a3=a2
  ·rw[if_pos d] at h; exact .inr ⟨h.symm,by omega,by omega,by omega,by omega,by omega,fun _=>by omega,fun _=>by omega,fun _=>by omega,fun h=>absurd k1 h⟩
  ·rw[if_neg d] at h; exact .inl h.symm
 rw[if_neg k1] at h
 by_cases k2:a1=2
 ·rw[if_pos k2] at h
  by_cases d:a3=a2
  ·rw[if_pos d] at h; exact .inr ⟨h.symm,by omega,by omega,by omega,by omega,by omega,fun _=>by omega,fun _=>by omega,fun _=>by omega,fun _ h=>absurd k2 h⟩
  ·rw[if_neg d] at h; exact .inl h.symm
 rw[if_neg k2] at h
 by_cases k4:a1=4
 ·rw[if_pos k4] at h
  by_cases d:a3=a2
  ·rw[if_pos d] at h
   by_cases d2:a4=a2
   ·rw[if_pos d2] at h
    rcases leaf h with h | ⟨h,hl⟩
    ·exact .inl h
    ·exact .inr ⟨h,by omega,by omega,by omega,by omega,by omega,fun _=>by omega,fun _=>by omega,fun _=>by omega,fun _ _=>hl⟩
   ·rw[if_neg d2] at h; exact .inl h.symm
  ·rw[if_neg d] at h; exact .inl h.symm
 rw[if_neg k4] at h
 by_cases k3:a1=3
 ·rw[if_pos k3] at h; exact tok (by omega) h
 rw[if_neg k3] at h
 by_cases k5:a1=5
 ·rw[if_pos k5] at h; exact tok (by omega) h
 rw[if_neg k5] at h
 by_cases k6:a1=6
 ·rw[if_pos k6] at h; exact tok (by omega) h
 rw[if_neg k6] at h
 exact .inl h.symm
theorem sound_tells (n:Nat)(a0 a1 a2 a3 a4 a5:Int)(a6:NL)(a7:Int):∃ b,qet_ n a0 a1 a2 a3 a4 a5 a6 a7=some b∧(b=true→SP a1 a2 a3 a4 a5 a6.l.length):=by
 rcases sound_tells' n a0 a1 a2 a3 a4 a5 a6 a7 _ rfl with h | ⟨h,h2⟩
 ·exact⟨false,h,fun h=>by cases h⟩
 ·exact⟨true,h,fun _=>h2⟩
def nxt (R:List E3)(p k i:Nat):List E3:=(if 0<(kd i).length then [((i:Int),0,atF i)] else [])++((if k+1<(kd p).length then [((p:Int),((k+1:Nat):Int),toF i)] else [])++R)
inductive Ok:List E3→Nat→Prop
 | fin:Ok [] Cur.x.l.length
 | step {R:List E3} {p k i:Nat} {a:Int} (hi:i<Cur.x.l.length) (hv:(kd p).getD k 0=(i:Int)) (ha:a≤atF i) (ht:toF i≤toF p) (h:Ok (nxt R p k i) (i+1)):Ok (((p:Int),(k:Int),a)::R) i
def Opn (L:List E3):Prop:=∀ x∈L,∃ (p k:Nat) (a:Int),x=((p:Int),(k:Int),a)∧p<Cur.x.l.length∧k<(kd p).length
theorem opn_nxt {R:List E3}{p k i:Nat}{a:Int}(h:Opn (((p:Int),(k:Int),a)::R))(hi:i<Cur.x.l.length):Opn (nxt R p k i):=by
 obtain⟨p',k',a',e,h1,h2⟩:=h _ (List.mem_cons_self ..)
 obtain⟨e1,e2,e3⟩:(p:Int)=p'∧(k:Int)=k'∧a=a':=by injection e with e1 e2; injection e2 with e2 e3; exact⟨e1,e2,e3⟩
 obtain rfl:p=p':=by omega
 intro x hx
 unfold nxt at hx
 rcases List.mem_append.1 hx with hx | hx
 ·by_cases c:0<(kd i).length
  ·rw[if_pos c] at hx
   obtain rfl:=List.mem_singleton.1 hx
   exact⟨i,0,atF i,rfl,hi,c⟩
  ·rw[if_neg c] at hx; cases hx
 ·rcases List.mem_append.1 hx with hx | hx
  ·by_cases c:k+1<(kd p).length
   ·rw[if_pos c] at hx
    obtain rfl:=List.mem_singleton.1 hx
    exact⟨p,k+1,toF i,rfl,h1,c⟩
   ·rw[if_neg c] at hx; cases hx
  ·exact h x (List.mem_cons_of_mem _ hx)
theorem inV {n i p k s:Nat}{a:Int}{S R:List E3}(h0:0<i)(hi:i<Cur.x.l.length)(hL:Cur.x.l.length≤1000000)(hs:s≤S.length)(h:S.take s=R ++ [((p:Int),(k:Int),a)])(hp:p<Cur.x.l.length)(hk:k<(kd p).length)(hR:R.length≤1000000) :
  qh_ n Cur.x (Cur.x.l.length:Int) (S,s,(i:Int))=some (.inr (.inl ()))∨((kd p).getD k 0=(i:Int)∧a≤atF i∧toF i≤toF p):=by
 obtain⟨rfl,hx,hR0⟩:=take_last hs h
 have hkl:=kd_le p
 have hw:w64 (((R.length+1:Nat):Int)-1)=((R.length:Nat):Int):=by rw[qy6_ (by omega) (by omega)]; omega
 obtain⟨b,T,rfl⟩:=ne_cons (S:=S) (by omega)
 by_cases c:(kd p).getD k 0=(i:Int)∧a≤atF i∧toF i≤toF p
 ·exact .inr c
 ·left
  unfold qh_
  dsimp only
  rw[if_pos (by omega),if_pos (by omega)]
  simp only[Option.bind_some,Int.toNat_natCast]
  rw[if_pos (by omega),if_neg (by omega),hw]
  simp only[Int.toNat_natCast]
  rw[if_pos (by omega),if_pos (by omega),hx]
  simp only[Option.bind_some,Int.toNat_natCast]
  rw[if_pos (by omega)]
  have hk2:((0:Int)≤(k:Int)∧(k:Int)<(((Cur.x.l.getD p (0,0,0,0,0,0,nl0,0)).2.2.2.2.2.2.1.l.length:Nat):Int)):=⟨by omega,by have:k<(Cur.x.l.getD p (0,0,0,0,0,0,nl0,0)).2.2.2.2.2.2.1.l.length:=hk; omega⟩
  rw[if_pos hk2,if_pos (show k<(Cur.x.l.getD p (0,0,0,0,0,0,nl0,0)).2.2.2.2.2.2.1.l.length from hk)]
  by_cases c1:(kd p).getD k 0=(i:Int)
  ·rw[if_pos (show (Cur.x.l.getD p (0,0,0,0,0,0,nl0,0)).2.2.2.2.2.2.1.l.getD k 0=(i:Int) from c1)]
   by_cases c2:a≤atF i
   ·have c3:¬ toF i≤toF p:=fun h=>c ⟨c1,c2,h⟩
    rw[if_neg (show ¬ (Cur.x.l.getD i (0,0,0,0,0,0,nl0,0)).2.2.1<a from fun h=>absurd (show atF i<a from h) (by omega)),if_pos (show (Cur.x.l.getD i (0,0,0,0,0,0,nl0,0)).2.2.2.2.1 > (Cur.x.l.getD p (0,0,0,0,0,0,nl0,0)).2.2.2.2.1 from (by have:¬ toF i≤toF p:=c3; show toF i > toF p; omega))]
   ·rw[if_pos (show (Cur.x.l.getD i (0,0,0,0,0,0,nl0,0)).2.2.1<a from (by show atF i<a; omega))]
  ·rw[if_neg (show ¬ (Cur.x.l.getD p (0,0,0,0,0,0,nl0,0)).2.2.2.2.2.2.1.l.getD k 0=(i:Int) from c1)]
def good (r:Unit ⊕ (List E3×Nat)):Prop:=∃ S s,r=.inr (S,s)∧(S=[]∨s=0)
def inRes (o:Option (Unit ⊕ (List E3×Nat))):Option Bool:=match o with
 | none=>none
 | some (.inl _)=>some false
 | some (.inr (c1_0,c1_1))=>match c1_0 with
  | []=>some true
  | c1_0a::c1_0t=>if ((c1_1:Nat):Int)=(0:Int) then some true else some false
theorem inRun {n:Nat}(hL:Cur.x.l.length≤1000000):∀ (f i:Nat) (S:List E3) (s:Nat) (L:List E3),Cur.x.l.length-i<f→0<i→i≤Cur.x.l.length→s≤S.length→S.take s=L.reverse→L.length≤i→Opn L→∃ r,iterM (qh_ n Cur.x (Cur.x.l.length:Int)) f (S,s,(i:Int))=some r∧(good r→Ok L i)
 | 0,i,S,s,L,h,_,_,_,_,_,_=>absurd h (Nat.not_lt_zero _)
 | f+1,i,S,s,L,hf,h0,hi,hs,hS,hl,hO=>by
  rw[qc0_]
  by_cases hN:i=Cur.x.l.length
  ·have hB:qh_ n Cur.x (Cur.x.l.length:Int) (S,s,(i:Int))=some (.inr (.inr (S,match S with | []=>0 | _::_=>s))):=by
    unfold qh_
    cases S with
    | nil=>dsimp only; rw[if_neg (by omega)]
    | cons b T=>dsimp only; rw[if_neg (by omega)]
   rw[hB]
   refine⟨_,rfl,fun⟨S',s',e,h⟩=>?_⟩
   injection e with e
   injection e with e1 e2
   subst e1
   have:L=[]:=by
    cases S with
    | nil=>rw[List.take_nil] at hS; exact List.reverse_eq_nil_iff.1 hS.symm
    | cons b T=>
     rcases h with h | h
     ·cases h
     ·rw[←e2] at h
      have h:s=0:=h
      subst h
      exact List.reverse_eq_nil_iff.1 hS.symm
   rw[this,hN]
   exact .fin
  ·have hi':i<Cur.x.l.length:=by omega
   cases L with
   | nil=>
    have hB:qh_ n Cur.x (Cur.x.l.length:Int) (S,s,(i:Int))=some (.inr (.inl ())):=by
     unfold qh_
     cases S with
     | nil=>dsimp only; rw[if_pos (by omega),if_pos (by omega)]; simp only[Option.bind_some]; rw[if_pos (by omega)]
     | cons b T=>
      have:s=0:=by
       have:=congrArg List.length hS
       rw[List.length_take,List.reverse_nil,List.length_nil] at this
       simp at this
       exact this
      dsimp only; rw[if_pos (by omega),if_pos (by omega)]; simp only[Option.bind_some]; rw[if_pos (by omega),if_pos (by omega)]
    rw[hB]
    exact⟨_,rfl,fun⟨S',s',e,_⟩=>by cases e⟩
   | cons x R=>
    obtain⟨p,k,a,rfl,hp,hk⟩:=hO x (List.mem_cons_self ..)
    rw[List.reverse_cons] at hS
    rw[List.length_cons] at hl
    rcases inV (n:=n) h0 hi' hL hs hS hp hk (by rw[List.length_reverse]; omega) with hB | ⟨c1,c2,c3⟩
    ·rw[hB]
     exact⟨_,rfl,fun⟨S',s',e,_⟩=>by cases e⟩
    ·obtain⟨S',s',g1,g2,g3,g4⟩:=inB (n:=n) h0 hi' hL hs hS hp hk c1 c2 c3 (by rw[List.length_reverse]; omega)
     rw[g1]
     have hn:S'.take s'=(nxt R p k i).reverse:=by
      rw[g4]
      unfold nxt
      by_cases d1:k+1<(kd p).length<;>by_cases d2:0<(kd i).length<;>simp[d1,d2]
     have hln:(nxt R p k i).length≤i+1:=by
      unfold nxt
      by_cases d1:k+1<(kd p).length<;>by_cases d2:0<(kd i).length<;>simp[d1,d2]<;>omega
     obtain⟨r,q1,q2⟩:=inRun hL f (i+1) S' s' (nxt R p k i) (by omega) (by omega) (by omega) g2 hn hln (opn_nxt hO hi')
     exact⟨r,q1,fun h=>.step hi' c1 c2 c3 (q2 h)⟩
theorem Ok.ks (hs:∀ j,j<Cur.x.l.length→atF j≤toF j):∀ (m i:Nat) (R:List E3) (p k:Nat) (a:Int),Cur.x.l.length-i≤m→k<(kd p).length→Ok (((p:Int),(k:Int),a)::R) i→∃ e,i<e∧Ks p k i a e∧Ok R e
 | m,i,R,p,k,a,hm,hk,h=>by
  generalize hx:(((p:Int),(k:Int),a)::R)=X at h
  cases h with
  | fin=>cases hx
  | @step R' p' k' i a' hi hv ha ht h=>
   injection hx with e1 e2
   injection e1 with e3 e4
   injection e4 with e4 e5
   obtain rfl:p=p':=by omega
   obtain rfl:k=k':=by omega
   subst e2
   subst e5
   obtain⟨m,rfl⟩:∃ q,m=q+1:=⟨m-1,by omega⟩
   have mid:∃ e,i<e∧Ks i 0 (i+1) (atF i) e∧Ok ((if k+1<(kd p).length then [((p:Int),((k+1:Nat):Int),toF i)] else [])++R) e:=by
    unfold nxt at h
    by_cases c:0<(kd i).length
    ·rw[if_pos c] at h
     obtain⟨e,g1,g2,g3⟩:=Ok.ks hs m (i+1) _ i 0 (atF i) (by omega) c h
     exact⟨e,by omega,g2,g3⟩
    ·rw[if_neg c] at h
     exact⟨i+1,by omega,.done (by omega) (hs i hi),h⟩
   obtain⟨e,g1,g2,g3⟩:=mid
   by_cases c:k+1<(kd p).length
   ·rw[if_pos c] at g3
    obtain⟨e',h1,h2,h3⟩:=Ok.ks hs m e R p (k+1) (toF i) (by omega) c g3
    exact⟨e',by omega,.kid hk hv hi ha g2 h2,h3⟩
   ·rw[if_neg c] at g3
    exact⟨e,g1,.kid hk hv hi ha g2 (.done (by omega) ht),g3⟩
theorem Ok.nil {i:Nat}(h:Ok [] i):i=Cur.x.l.length:=by
 generalize hx:([]:List E3)=X at h
 cases h with
 | fin=>rfl
 | step=>cases hx
theorem prgCheck {n:Nat}(hn:Cur.x.l.length<n)(hL:Cur.x.l.length≤1000000):∃ c,q7_ n Cur.x=some c∧(c=0→Tree):=by
 unfold q7_
 by_cases c1:((Cur.x.l.length:Nat):Int) > 524288
 ·rw[if_pos c1]; exact⟨3,rfl,fun h=>by cases h⟩
 rw[if_neg c1]
 by_cases c2:((Cur.x.l.length:Nat):Int)=0
 ·rw[if_pos c2]; exact⟨2,rfl,fun h=>by cases h⟩
 rw[if_neg c2]
 obtain⟨m,rfl⟩:∃ m,n=m+1:=⟨n-1,by omega⟩
 have hw:w64 ((0:Int)+1)=((1:Nat):Int):=by decide
 have hin:∃ b,qes_ (m+1) Cur.x=some b∧(b=true→Ok (if 0<(kd 0).length then [((0:Nat),(0:Nat),atF 0)] else []) 1):=by
  unfold qes_ qgr_
  rw[qc0_]
  have hB0:qh_ (m+1) Cur.x (Cur.x.l.length:Int) ([],0,0)=if (((kd 0).length:Nat):Int) > 0 then some (.inl ([(0,0,atF 0)],1,w64 ((0:Int)+1))) else some (.inl ([],0,w64 ((0:Int)+1))):=by
   unfold qh_
   dsimp only
   rw[if_pos (by omega),if_pos (by omega)]
   simp only[Option.bind_some]
   rw[if_neg (by omega)]
   rfl
  have fin:∀ o:Option (Unit ⊕ (List E3×Nat)),(∃ r,o=some r∧(good r→Ok (if 0<(kd 0).length then [((0:Nat),(0:Nat),atF 0)] else []) 1))→∃ b,inRes o=some b∧(b=true→Ok (if 0<(kd 0).length then [((0:Nat),(0:Nat),atF 0)] else []) 1):=by
   intro o ⟨r,e,h⟩
   subst e
   rcases r with _ | ⟨S,s⟩
   ·exact⟨false,rfl,fun h=>by cases h⟩
   ·cases S with
    | nil=>exact⟨true,rfl,fun _=>h ⟨_,_,rfl,.inl rfl⟩⟩
    | cons x T=>
     by_cases c:((s:Nat):Int)=0
     ·exact⟨true,by show (if ((s:Nat):Int)=(0:Int) then some true else some false)=_; rw[if_pos c],fun _=>h ⟨_,_,rfl,.inr (by omega)⟩⟩
     ·exact⟨false,by show (if ((s:Nat):Int)=(0:Int) then some true else some false)=_; rw[if_neg c],fun h=>by cases h⟩
  show ∃ b,inRes _=some b∧_
  refine fin _ ?_
  rw[hB0,hw]
  by_cases hz:0<(kd 0).length
  ·rw[if_pos (by omega),if_pos hz]
   simp only[Option.bind_some]
   exact inRun hL m 1 _ 1 [((0:Nat),(0:Nat),atF 0)] (by omega) (by omega) (by omega) (by simp) rfl (by simp) (fun x hx=>by
    obtain rfl:=List.mem_singleton.1 hx
    exact⟨0,0,atF 0,rfl,by omega,hz⟩)
  ·rw[if_neg (by omega),if_neg hz]
   simp only[Option.bind_some]
   exact inRun hL m 1 [] 0 [] (by omega) (by omega) (by omega) (by simp) rfl (by simp) (fun x hx=>by cases hx)
 obtain⟨b,e1,h1⟩:=hin
 rw[e1]
 simp only[Option.bind_some]
 cases b with
 | false=>rw[if_neg (by decide)]; exact⟨2,rfl,fun h=>by cases h⟩
 | true=>
  rw[if_pos rfl]
  have hOk:=h1 rfl
  obtain⟨r,q1,q2⟩:=hoare (B:=qcn_ (m+1) Cur.x (Cur.x.l.length:Int)) (σ:=Unit) (fun _ i=>i) (fun i _=>∀ j,j<i→SPi j∧(0<j→(pt j).2.1 ≠ 1)) (fun r=>r=.inr ()→∀ i,i<Cur.x.l.length→SPi i∧(0<i→(pt i).2.1 ≠ 1)) Cur.x.l.length
   (fun i s hi hI=>by
    obtain⟨b,e1,e2⟩:=sound_tells (m+1) (pt i).1 (pt i).2.1 (pt i).2.2.1 (pt i).2.2.2.1 (pt i).2.2.2.2.1 (pt i).2.2.2.2.2.1 (pt i).2.2.2.2.2.2.1 (pt i).2.2.2.2.2.2.2
    have hB:qcn_ (m+1) Cur.x (Cur.x.l.length:Int) (i:Int)=((qet_ (m+1) (pt i).1 (pt i).2.1 (pt i).2.2.1 (pt i).2.2.2.1 (pt i).2.2.2.2.1 (pt i).2.2.2.2.2.1 (pt i).2.2.2.2.2.2.1 (pt i).2.2.2.2.2.2.2).bind fun y=>if y=true then (if (pt i).2.1=1 then (if (i:Int) > 0 then some (.inr (.inl ())) else some (.inl (w64 ((i:Int)+1)))) else some (.inl (w64 ((i:Int)+1)))) else some (.inr (.inl ()))):=by
     unfold qcn_
     dsimp only
     rw[if_pos (by omega),if_pos (by omega)]
     simp only[Option.bind_some,Int.toNat_natCast]
     rfl
    rw[hB,e1,w64_inc (by omega)]
    simp only[Option.bind_some]
    cases b with
    | false=>
     rw[if_neg (by decide)]
     exact .inr ⟨.inl (),(fun h=>by cases h),rfl⟩
    | true=>
     have hsp:SPi i:=e2 rfl
     rw[if_pos rfl]
     have go:(0<i→(pt i).2.1 ≠ 1)→∀ j,j<i+1→SPi j∧(0<j→(pt j).2.1 ≠ 1):=fun h j hj=>by
      rcases Nat.lt_or_ge j i with h1 | h1
      ·exact hI j h1
      ·obtain rfl:j=i:=by omega
       exact⟨hsp,h⟩
     by_cases d1:(pt i).2.1=1
     ·rw[if_pos d1]
      by_cases d2:(i:Int) > 0
      ·rw[if_pos d2]; exact .inr ⟨.inl (),(fun h=>by cases h),rfl⟩
      ·rw[if_neg d2]; exact .inl ⟨(),go fun h=>absurd h (by omega),rfl⟩
     ·rw[if_neg d1]; exact .inl ⟨(),go fun _=>d1,rfl⟩)
   (fun s hI=>by
    unfold qcn_
    dsimp only
    rw[if_neg (by omega)]
    exact⟨_,fun _=>hI,rfl⟩) (m+1) 0 () (Nat.zero_le _) (fun j hj=>absurd hj (Nat.not_lt_zero _)) (by omega)
  have q2:qh3_ (m+1) Cur.x (Cur.x.l.length:Int) 0=some r:=q2
  rw[q2]
  rcases r with r | r
  ·exact⟨2,rfl,fun h=>by cases h⟩
  ·refine⟨0,rfl,fun _=>?_⟩
   have hall:=q1 rfl
   have hat:∀ j,j<Cur.x.l.length→atF j≤toF j:=fun j hj=>(hall j hj).1.at_
   refine⟨by omega,by omega,fun i hi=>(hall i hi).1,fun i h0 hi=>(hall i hi).2 h0,?_⟩
   by_cases hz:0<(kd 0).length
   ·rw[if_pos hz] at hOk
    obtain⟨e,g1,g2,g3⟩:=Ok.ks hat _ 1 [] 0 0 (atF 0) (Nat.le_refl _) hz hOk
    rw[←g3.nil]; exact g2
   ·rw[if_neg hz] at hOk
    rw[←hOk.nil]
    exact .done (by omega) (hat 0 (by omega))
end


theorem chkAny {n:Nat}{x:WL rw_iiiiiiLu}(hL:x.l.length≤1000000)(hn:x.l.length<n):∃ c,q7_ n x=some c∧(c=0 ↔ TreeOf x):=by
 obtain⟨c,h1,h2⟩:=@prgCheck _ ⟨x⟩ n hn hL
 refine⟨c,h1,fun h=>h2 h,fun h=>?_⟩
 have:=chk (n:=n) h hn
 have h1:q7_ n x=some c:=h1
 rw[h1] at this
 exact Option.some.inj this
theorem refAny {n:Nat}{x:WL rw_iiiiiiLu}(hL:x.l.length≤1000000){K:Nat}(hK:∀ j,(@kd _ ⟨x⟩ j).length≤K)(hn:x.l.length+x.l.length+K+20<n):∃ c,qe_ n x=some c∧(c=0 ↔ TreeOf x):=by
 obtain⟨c,h1,h2⟩:=refC (n:=n) hL hK (by omega)
 refine⟨c,h1,h2,fun h=>?_⟩
 have:=qwj_ (n:=n) h (by omega)
 rw[h1] at this
 exact Option.some.inj this
def Alike (x y:WL rw_iiiiiiLu):Prop:=y.l.map vw=x.l.map vw
theorem Alike.len {x y:WL rw_iiiiiiLu}(h:Alike x y):y.l.length=x.l.length:=by simpa using congrArg List.length h
theorem getD_map {α β:Type}{f:α→β}{l:List α}{d:α}{j:Nat}(h:j<l.length):(l.map f).getD j (f d)=f (l.getD j d):=by
 simp[List.getD_eq_getElem?_getD,h]
theorem Alike.row {x y:WL rw_iiiiiiLu}(h:Alike x y)(j:Nat):vw (y.l.getD j d8)=vw (x.l.getD j d8):=by
 have hl:=h.len
 by_cases c:j<x.l.length
 ·have e:(y.l.map vw).getD j (vw d8)=(x.l.map vw).getD j (vw d8):=by rw[h]
  rw[getD_map (by omega),getD_map c] at e
  exact e
 ·simp[List.getD_eq_getElem?_getD,List.getElem?_eq_none (show x.l.length≤j by omega),List.getElem?_eq_none (show y.l.length≤j by omega)]
theorem Alike.symm {x y:WL rw_iiiiiiLu}(h:Alike x y):Alike y x:=Eq.symm h
theorem Alike.tree {x y:WL rw_iiiiiiLu}(h:Alike x y)(hT:TreeOf x):TreeOf y:=hT.alike h.len fun j _=>by
 have h:=h.row j
 simp only[vw,Prod.mk.injEq] at h
 obtain⟨e1,e2,e3,e4,e5,e6,e7,-⟩:=h
 exact⟨e1,e2,e3,e4,e5,e6,by rw[e7]; simp⟩
theorem Alike.kids {x y:WL rw_iiiiiiLu}(h:Alike x y)(j:Nat):@kd _ ⟨y⟩ j=@kd _ ⟨x⟩ j:=congrArg (fun v:V8=>v.2.2.2.2.2.2.1) (h.row j)
def sumK (x:WL rw_iiiiiiLu):Nat→Nat
 | 0=>0
 | i+1=>sumK x i+(@kd _ ⟨x⟩ i).length
theorem sumK_le (x:WL rw_iiiiiiLu):∀ i,sumK x i≤i*140737488355328
 | 0=>Nat.zero_le _
 | i+1=>by
  have:=sumK_le x i
  have h2:=@kd_le _ ⟨x⟩ i
  show sumK x i+(@kd _ ⟨x⟩ i).length≤_
  omega
theorem sumK_mem (x:WL rw_iiiiiiLu):∀ i j,j<i→(@kd _ ⟨x⟩ j).length≤sumK x i
 | 0,j,h=>absurd h (Nat.not_lt_zero _)
 | i+1,j,h=>by
  show _≤sumK x i+(@kd _ ⟨x⟩ i).length
  rcases Nat.lt_or_ge j i with c | c
  ·have:=sumK_mem x i j c; omega
  ·obtain rfl:j=i:=by omega
   omega
theorem lightK {n mo:Nat}{x:WL rw_iiiiiiLu}(hm:mo≤1000)(hn:mo+5<n):∃ b,q6_ n x (mo:Int)=some b∧(b=true→x.l.length≤mo∧∀ j,(@kd _ ⟨x⟩ j).length≤2*mo):=by
 obtain⟨r,hr,h⟩:=whileI (B:=qbo_ n x (mo:Int)) (fun s=>∃ i:Nat,s=(((sumK x i:Nat):Int),(i:Int))∧i≤mo+1∧i≤x.l.length) (fun s=>mo+1-s.2.toNat) (fun r=>r=.inl ()∨∃ i:Nat,r=.inr ((sumK x i:Nat):Int)∧(i=x.l.length∨i=mo+1∧mo+1≤x.l.length))
  (fun s hI=>by
   obtain⟨i,rfl,hi,hI⟩:=hI
   have hs:=sumK_le x i
   have hk:=@kd_le _ ⟨x⟩ i
   unfold qbo_
   dsimp only
   by_cases c1:(i:Int)<((x.l.length:Nat):Int)
   ·rw[if_pos c1]
    by_cases c2:(i:Int)≤(mo:Int)
    ·rw[if_pos c2,if_pos (by omega),w64_inc (by omega),Int.toNat_natCast]
     simp only[Option.bind_some]
     have hx:x.l.getD i (0,0,0,0,0,0,nl0,0)=x.l.getD i d8:=rfl
     rw[hx]
     by_cases d1:(x.l.getD i d8).2.2.1 > 1048576
     ·rw[if_pos d1]; exact .inr ⟨_,.inl rfl,rfl⟩
     rw[if_neg d1]
     by_cases d2:(x.l.getD i d8).2.2.2.2.1 > 1048576
     ·rw[if_pos d2]; exact .inr ⟨_,.inl rfl,rfl⟩
     rw[if_neg d2]
     by_cases d3:(x.l.getD i d8).2.2.2.2.2.1 > 1048576
     ·rw[if_pos d3]; exact .inr ⟨_,.inl rfl,rfl⟩
     rw[if_neg d3]
     by_cases d4:(x.l.getD i d8).2.2.1 < -1048576
     ·rw[if_pos d4]; exact .inr ⟨_,.inl rfl,rfl⟩
     rw[if_neg d4]
     by_cases d5:(x.l.getD i d8).2.2.2.2.1 < -1048576
     ·rw[if_pos d5]; exact .inr ⟨_,.inl rfl,rfl⟩
     rw[if_neg d5]
     by_cases d6:(x.l.getD i d8).2.2.2.2.2.1 < -1048576
     ·rw[if_pos d6]; exact .inr ⟨_,.inl rfl,rfl⟩
     rw[if_neg d6]
     have hw:w64 (((sumK x i:Nat):Int)+(((x.l.getD i d8).2.2.2.2.2.2.1.l.length:Nat):Int))=((sumK x (i+1):Nat):Int):=by
      have hk:(x.l.getD i d8).2.2.2.2.2.2.1.l.length≤140737488355328:=hk
      rw[w64_id (by omega) (by omega)]
      rfl
     rw[hw]
     exact .inl ⟨(_,((i+1:Nat):Int)),⟨i+1,rfl,by omega,by omega⟩,by dsimp only; omega,rfl⟩
    ·rw[if_neg c2]; exact .inr ⟨_,.inr ⟨i,rfl,.inr ⟨by omega,by omega⟩⟩,rfl⟩
   ·rw[if_neg c1]; exact .inr ⟨_,.inr ⟨i,rfl,.inl (by omega)⟩,rfl⟩) n (0,0) ⟨0,rfl,by omega,Nat.zero_le _⟩ (by dsimp only; omega)
 unfold q6_ qdo_
 rw[h]
 rcases hr with rfl | ⟨i,rfl,hi⟩
 ·exact⟨_,rfl,fun h=>by cases h⟩
 ·dsimp only
  by_cases c1:((x.l.length:Nat):Int)≤(mo:Int)
  ·rw[if_pos c1,qy6_ (by omega) (by omega)]
   obtain rfl:i=x.l.length:=by omega
   by_cases c2:((sumK x x.l.length:Nat):Int)≤2*(mo:Int)
   ·rw[if_pos c2]
    refine⟨_,rfl,fun _=>⟨by omega,fun j=>?_⟩⟩
    by_cases c3:j<x.l.length
    ·have:=sumK_mem x _ j c3; omega
    ·have:@kd _ ⟨x⟩ j=[]:=by
      show (x.l.getD j d8).2.2.2.2.2.2.1.l=[]
      rw[List.getD_eq_getElem?_getD,List.getElem?_eq_none (by omega)]; rfl
     rw[this]; exact Nat.zero_le _
   ·rw[if_neg c2]; exact⟨_,rfl,fun h=>by cases h⟩
  ·rw[if_neg c1]; exact⟨_,rfl,fun h=>by cases h⟩
theorem mv_id' (v:V8):mvK id v=v:=by
 obtain⟨a,b,c,d,e,g,l,m⟩:=v
 show (a,b,c,d,e,g,l.map id,m)=_
 rw[List.map_id]
theorem ownInt {n:Nat}{x:NL}(hx:x.l.length≤1000000):∃ k,qdg_ n x=some k∧k.l=x.l:=by
 unfold qdg_
 by_cases h:0<x.l.length
 ·rw[if_pos h,if_pos (by omega),if_pos (by omega),dif_pos (by rw[List.nil_append]; omega)]
  exact⟨_,rfl,rfl⟩
 ·rw[if_neg h,dif_pos (by simp)]
  exact⟨_,rfl,(List.length_eq_zero_iff.1 (by omega)).symm⟩
theorem ownParts {n:Nat}{x:WL rw_iiiiiiLu}(hx:x.l.length≤1000000)(hk:∀ j,(@kd _ ⟨x⟩ j).length≤1000000)(hn:x.l.length<n):∃ y,qct_ n x=some y∧Alike x y:=by
 by_cases h0:0<x.l.length
 ·obtain⟨q,⟨M,rfl,hMl,hMv⟩,q2⟩:=hoare (B:=qbj_ n x.l.length) (σ:=List P8) (fun L j=>(L,j)) (fun j L=>L.length=x.l.length∧(∀ k,vw (L.getD k d8)=vw (x.l.getD k d8))) (fun q=>∃ M:List P8,q=(M,x.l.length)∧M.length=x.l.length∧∀ k,vw (M.getD k d8)=vw (x.l.getD k d8)) x.l.length
   (fun j L hj hI=>by
    obtain⟨hL,hI⟩:=hI
    cases L with
    | nil=>simp at hL; omega
    | cons a t=>
     have hkk:((a::t).getD j d8).2.2.2.2.2.2.1.l=@kd _ ⟨x⟩ j:=congrArg (fun v:V8=>v.2.2.2.2.2.2.1) (hI j)
     obtain⟨k,g1,g2⟩:=ownInt (n:=n) (x:=((a::t).getD j d8).2.2.2.2.2.2.1) (by rw[hkk]; exact hk j)
     refine .inl ⟨(a::t).set j (rk ((a::t).getD j d8) k),⟨by rw[List.length_set]; exact hL,fun q=>?_⟩,?_⟩
     ·rw[qnh_ (by omega)]
      by_cases e:q=j
      ·subst e
       rw[if_pos rfl,←hI q,vw_rk (f:=id) (by rw[g2,List.map_id])]
       exact mv_id' _
      ·rw[if_neg e]; exact hI q
     ·unfold qbj_
      dsimp only
      rw[if_pos (by omega),if_pos (by omega),Int.toNat_natCast,if_pos (by omega)]
      try dsimp only[Option.bind_some]
      rw[show qdg_ n ((a::t).getD j (0,0,0,0,0,0,nl0,0)).2.2.2.2.2.2.1=some k from g1]
      try dsimp only[Option.bind_some]
      rw[w64_inc (by omega)]
      rfl)
   (fun L hI=>by
    obtain⟨hL,hI⟩:=hI
    cases L with
    | nil=>simp at hL; omega
    | cons a t=>
     refine⟨_,⟨a::t,rfl,hL,hI⟩,?_⟩
     unfold qbj_
     dsimp only
     rw[if_neg (by omega)])
   n 0 x.l (Nat.zero_le _) ⟨rfl,fun k=>rfl⟩ (by omega)
  have q2:qd8_ n x.l.length (x.l,0)=some (M,x.l.length):=q2
  have hAl:M.map vw=x.l.map vw:=by
   apply List.ext_getElem (by simp[hMl])
   intro j h1 h2
   have h3:j<x.l.length:=by simpa using h2
   have:=hMv j
   simpa [List.getD_eq_getElem?_getD,h3,hMl] using this
  unfold qct_ qcb_
  rw[if_pos h0,if_pos (by omega),if_pos (by omega),List.nil_append]
  dsimp only
  cases hxl:x.l with
  | nil=>rw[hxl] at h0; simp at h0
  | cons a t=>
   dsimp only
   rw[←hxl,q2]
   try dsimp only[Option.bind_some]
   cases M with
   | nil=>simp at hMl; omega
   | cons b u=>
    dsimp only
    rw[if_pos hMl.symm,dif_pos (by omega)]
    exact⟨_,rfl,hAl⟩
 ·have hxl:x.l=[]:=List.length_eq_zero_iff.1 (by omega)
  obtain⟨m,rfl⟩:∃ m,n=m+1:=⟨n-1,by omega⟩
  unfold qct_ qcb_
  rw[if_neg h0]
  refine⟨frzR qc_ [] (by simp),rfl,?_⟩
  show ([]:List P8).map vw=x.l.map vw
  rw[hxl]

end Go.Proofs.Ytdcocjjkfodjeaa.spc20
