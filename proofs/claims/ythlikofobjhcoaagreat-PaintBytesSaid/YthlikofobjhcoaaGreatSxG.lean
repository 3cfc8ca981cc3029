/-
 Code from one state to another; states that say less. Own work, plain lemmas.
-/
import Derived.Test.YthlikofobjhcoaaGreatAx9
set_option linter.unusedSimpArgs false
set_option linter.unusedVariables false
set_option linter.unnecessarySimpa false
set_option linter.deprecated false
set_option linter.unusedSectionVars false
/-! Code from one state to another; states that say less. Own work, plain lemmas. -/
namespace Go.Proofs.YthlikofobjhcoaaGreat.Ax
open Go.RowKit
variable [Tabs]
def AllP:List Prop→Prop
 | []=>True
 | p::l=>p∧AllP l
theorem AllP.app:∀ {l k:List Prop},AllP l→AllP k→AllP (l++k)
 | [],_,_,h=>h
 | _::_,_,h,h2=>⟨h.1,AllP.app h.2 h2⟩
theorem AllP.append:∀ {l k:List Prop},AllP (l++k)→AllP l∧AllP k
 | [],_,h=>⟨trivial,h⟩
 | _::_,_,h=>⟨⟨h.1,(AllP.append h.2).1⟩,(AllP.append h.2).2⟩
def InvS (n0:Bs)(N m:Nat)(σe:Ren)(we:World)(s:XSt)(a:Act)(w:World):Prop:=
 ∃ σ,TR σ N s.1 a.tmps∧DR σ s.2.1 a.defers∧HR n0 σ s.2.2 w∧Step n0 σe we (Nat.min s.2.2.low m) σ w
def CG (P:Program)(rnd:Option Nat)(N m:Nat)(c:Code)(s:XSt)(x:Ex×XSt):Prop:=
 ∀ (n0:Bs) (F:Fence) (n:Nat) (σe:Ren) (we:World) (a:Act) (w:World),WideF F→RndR σe rnd F.round→(∀ b t,σe b=some t→b<m∧t.1<we.heap.size)→(∀ b,n0.X b→b<m)→InvS n0 N m σe we s a w →
  c.wpIn F n P (fun e a' w'=>e=eR x.1∧InvS n0 N m σe we x.2 a' w') a w
def LG (P:Program)(rnd:Option Nat)(N m:Nat)(b:Code)(s:XSt)(x:Ex×XSt):Prop:=
 ∃ M,∀ (n0:Bs) (F:Fence) (n:Nat) (σe:Ren) (we:World) (a:Act) (w:World),WideF F→RndR σe rnd F.round→(∀ b t,σe b=some t→b<m∧t.1<we.heap.size)→(∀ b,n0.X b→b<m)→InvS n0 N m σe we s a w →
  Code.roundsIn F n P b (fun e a' w'=>e=eR x.1∧InvS n0 N m σe we x.2 a' w') M a w
def Wk (N m:Nat)(s s':XSt):Prop:=
 ∀ (n0:Bs) (σe:Ren) (we:World) (a:Act) (w:World),(∀ b t,σe b=some t→b<m∧t.1<we.heap.size)→(∀ b,n0.X b→b<m)→InvS n0 N m σe we s a w→InvS n0 N m σe we s' a w
theorem LG.cg {P:Program}{rnd:Option Nat}{N m:Nat}{b:Code}{s:XSt}{x:Ex×XSt}(h:LG P rnd N m b s x):CG P rnd N m (.loop b) s x:=by
 obtain⟨M,h⟩:=h
 exact fun n0 F n σe we a w h1 h2 h3 h4 h5=>wpIn_loop_rounds M (h n0 F n σe we a w h1 h2 h3 h4 h5)
theorem LG.step {P:Program}{rnd:Option Nat}{N m:Nat}{b:Code}{s s1:XSt}{x:Ex×XSt}(h:CG P rnd N m b s (.normal,s1))(k:LG P rnd N m b s1 x):LG P rnd N m b s x:=by
 obtain⟨M,k⟩:=k
 refine⟨M+1,fun n0 F n σe we a w h1 h2 h3 h4 h5=>?_⟩
 rw[roundsIn_succ]
 refine wpIn_mono (h n0 F n σe we a w h1 h2 h3 h4 h5) ?_
 rintro e a' w' ⟨rfl,hi⟩
 exact k n0 F n σe we a' w' h1 h2 h3 h4 hi
theorem LG.done {P:Program}{rnd:Option Nat}{N m:Nat}{b:Code}{s:XSt}{x:Ex×XSt}(h:CG P rnd N m b s x)(hx:x.1 ≠ .normal):LG P rnd N m b s x:=by
 refine⟨1,fun n0 F n σe we a w h1 h2 h3 h4 h5=>?_⟩
 rw[roundsIn_succ]
 refine wpIn_mono (h n0 F n σe we a w h1 h2 h3 h4 h5) ?_
 rintro e a' w' hq
 have he:e ≠ .normal:=by
  rw[hq.1]; intro hx'
  cases hx1:x.1<;>rw[hx1] at hx' hx<;>first | exact hx rfl | cases hx'
 cases e<;>first | exact absurd rfl he | exact hq
theorem Wk.refl (N m:Nat)(s:XSt):Wk N m s s:=fun _ _ _ _ _ _ _ h=>h
theorem Wk.trans {N m:Nat}{s s1 s2:XSt}(h:Wk N m s s1)(k:Wk N m s1 s2):Wk N m s s2:=fun n0 σe we a w h1 h2 h3=>k n0 σe we a w h1 h2 (h n0 σe we a w h1 h2 h3)
theorem CG.pre {P:Program}{rnd:Option Nat}{N m:Nat}{c:Code}{s s':XSt}{x:Ex×XSt}(h:Wk N m s s')(k:CG P rnd N m c s' x):CG P rnd N m c s x:=
 fun n0 F n σe we a w h1 h2 h3 h4 h5=>k n0 F n σe we a w h1 h2 h3 h4 (h n0 σe we a w h3 h4 h5)
theorem LG.pre {P:Program}{rnd:Option Nat}{N m:Nat}{c:Code}{s s':XSt}{x:Ex×XSt}(h:Wk N m s s')(k:LG P rnd N m c s' x):LG P rnd N m c s x:=by
 obtain⟨M,k⟩:=k
 exact⟨M,fun n0 F n σe we a w h1 h2 h3 h4 h5=>k n0 F n σe we a w h1 h2 h3 h4 (h n0 σe we a w h3 h4 h5)⟩
theorem CG.post {P:Program}{rnd:Option Nat}{N m:Nat}{c:Code}{s:XSt}{e:Ex}{s1 s2:XSt}(h:CG P rnd N m c s (e,s1))(k:Wk N m s1 s2):CG P rnd N m c s (e,s2):=
 fun n0 F n σe we a w h1 h2 h3 h4 h5=>wpIn_mono (h n0 F n σe we a w h1 h2 h3 h4 h5) fun e' a' w' hq=>⟨hq.1,k n0 σe we a' w' h3 h4 hq.2⟩
structure WkS where
 slots:List Nat
 blks:List (Nat×Nat×Bool)
 next:Nat
 low:Nat
 frz:List (Nat×Nat):=[]
 nz:Bool:=false
 nt:List Nat:=[]
 frz2:List (Nat×Nat):=[]
 ns:List Nat:=[]
def qud_ (l:List (Nat×Nat×Bool))(b:Nat):Option Nat:=
 match l with
 | []=>none
 | x::l=>match Nat.beq x.2.1 b with
  | true=>some x.1
  | false=>qud_ l b
noncomputable def kapW (m:Nat)(l:List (Nat×Nat×Bool))(b:Nat):Option Nat:=oc (qud_ l b) (sel (Nat.blt b m) (some b) none) some
def freshB (b:Nat):List (Nat×Nat×Bool)→Bool
 | []=>true
 | x::l=>!(Nat.beq x.1 b)&&freshB b l
def freshO (b:Nat):List (Nat×Nat×Bool)→Bool
 | []=>true
 | x::l=>!(Nat.beq x.2.1 b)&&freshO b l
def blksOk (m nx lo:Nat):List (Nat×Nat×Bool)→Bool
 | []=>true
 | x::l=>(Nat.blt x.1 nx&&(match Nat.blt x.2.1 m with
  | true=>Nat.beq x.1 x.2.1||(Nat.ble m x.1&&Nat.ble lo x.2.1)
  | false=>Nat.ble m x.1))&&(freshB x.1 l&&freshO x.2.1 l)&&blksOk m nx lo l
noncomputable def anyT (N:Nat):Tr Value:=layT (List.replicate N (.chan none))
noncomputable def keepT (κ:Kap)(N:Nat)(T:Tr Value)(l:List Nat):Option (Tr Value):=
 @List.rec Nat (fun _=>Option (Tr Value)) (some (anyT N)) (fun i _ ih=>sel (Nat.blt i N) (oc (renV κ 9 (tget T i)) none fun v=>oc ih none fun t=>some (t.set i v)) none) l
noncomputable def keepB (κ:Kap)(B:Tr ABlk)(l:List (Nat×Nat×Bool)):Option (Tr ABlk):=
 @List.rec (Nat×Nat×Bool) (fun _=>Option (Tr ABlk)) (some .nil) (fun x _ ih=>oc (B.get x.2.1) none fun b=>oc (renB κ x.2.2 b) none fun y=>oc ih none fun t=>some (t.set x.1 y)) l
noncomputable def qwt_ (B:Tr ABlk)(l:List (Nat×Nat×Bool)):List Prop:=
 @List.rec (Nat×Nat×Bool) (fun _=>List Prop) [] (fun x _ ih=>sel x.2.2 (oc (B.get x.2.1) ih fun b=>FlatB b::ih) ih) l
noncomputable def weakF (N m:Nat)(k:WkS)(s:XSt):Option (XSt×List Prop):=
 sel (Nat.ble m k.next&&blksOk m k.next k.low k.blks) (oc (keepT (kapW m k.blks) N s.1 k.slots) none fun T=>oc (mapO (renD (kapW m k.blks)) s.2.1) none fun D=>oc (keepB (kapW m k.blks) s.2.2.blocks k.blks) none fun B=>
  some ((T,D,⟨B,k.next,Nat.min (Nat.min s.2.2.low m) k.low⟩),qwt_ s.2.2.blocks k.blks)) none
theorem q0y_ {l:List (Nat×Nat×Bool)}{b b':Nat}(h:qud_ l b=some b'):∃ fl,(b',b,fl)∈l:=by
 induction l with
 | nil=>cases h
 | cons x l ih=>
  unfold qud_ at h
  split at h
  ·rename_i he
   obtain rfl:=oI h
   obtain rfl:=nB he
   exact⟨x.2.2,List.mem_cons_self ..⟩
  ·obtain⟨fl,hf⟩:=ih h
   exact⟨fl,List.mem_cons_of_mem _ hf⟩
theorem qsm_ {b:Nat}:∀ {l:List (Nat×Nat×Bool)},freshB b l=true→∀ x∈l,x.1 ≠ b
 | [],_,x,hx=>by cases hx
 | y::l,h,x,hx=>by
  simp only[freshB,bA,Bool.not_eq_true'] at h
  rcases List.mem_cons.1 hx with rfl | hx
  ·intro e; rw[e,Nat.beq_refl] at h; cases h.1
  ·exact qsm_ h.2 x hx
theorem qsn_ {b:Nat}:∀ {l:List (Nat×Nat×Bool)},freshO b l=true→∀ x∈l,x.2.1 ≠ b
 | [],_,x,hx=>by cases hx
 | y::l,h,x,hx=>by
  simp only[freshO,bA,Bool.not_eq_true'] at h
  rcases List.mem_cons.1 hx with rfl | hx
  ·intro e; rw[e,Nat.beq_refl] at h; cases h.1
  ·exact qsn_ h.2 x hx
theorem qvv_ {m nx lo:Nat}:∀ {l:List (Nat×Nat×Bool)},blksOk m nx lo l=true→∀ x∈l,x.1<nx∧(x.1<m→x.1=x.2.1)∧(m≤x.1→m≤x.2.1∨lo≤x.2.1)
 | [],_,x,hx=>by cases hx
 | y::l,h,x,hx=>by
  simp only[blksOk,bA] at h
  rcases List.mem_cons.1 hx with rfl | hx
  ·obtain⟨⟨⟨h1,h2⟩,_⟩,_⟩:=h
   cases hb:Nat.blt x.2.1 m with
   | true=>
    rw[hb] at h2
    simp only[Bool.or_eq_true,bA] at h2
    have hlt:=qfr_ hb
    rcases h2 with h2 | ⟨h2,h3⟩
    ·have e:=nB h2
     exact⟨qfr_ h1,fun _=>e,fun hl=>by omega⟩
    ·have h2:=qd1_ h2
     exact⟨qfr_ h1,fun hl=>by omega,fun _=>.inr (qd1_ h3)⟩
   | false=>
    rw[hb] at h2
    have h2:=qd1_ h2
    have hge:m≤x.2.1:=by
     rcases Nat.lt_or_ge x.2.1 m with hl | hl
     ·have:Nat.blt x.2.1 m=true:=by simpa [Nat.blt_eq] using hl
      rw[this] at hb; cases hb
     ·exact hl
    exact⟨qfr_ h1,fun hl=>by omega,fun _=>.inl hge⟩
  ·exact qvv_ h.2 x hx
theorem qzh_ {m nx lo:Nat}:∀ {l:List (Nat×Nat×Bool)},blksOk m nx lo l=true→∀ x∈l,∀ y∈l,(x.1=y.1∨x.2.1=y.2.1)→x=y
 | [],_,x,hx=>by cases hx
 | z::l,h,x,hx=>by
  intro y hy he
  simp only[blksOk,bA] at h
  obtain⟨⟨_,h1,h2⟩,h3⟩:=h
  rcases List.mem_cons.1 hx with e1 | hx1<;>rcases List.mem_cons.1 hy with e2 | hy1
  ·rw[e1,e2]
  ·subst e1
   rcases he with he | he
   ·exact absurd he.symm (qsm_ h1 y hy1)
   ·exact absurd he.symm (qsn_ h2 y hy1)
  ·subst e2
   rcases he with he | he
   ·exact absurd he (qsm_ h1 x hx1)
   ·exact absurd he (qsn_ h2 x hx1)
  ·exact qzh_ h3 x hx1 y hy1 he
theorem anyT_TR {N:Nat}{ts:Array Value}(h:ts.size=N)(σ:Ren):TR σ N (anyT N) ts:=by
 refine⟨h,fun i=>?_⟩
 unfold tget anyT
 rw[qfu_]
 by_cases hi:i<N
 ·rw[show (List.replicate N (Value.chan none))[i]?=some (.chan none) from by simp[hi],oc_some]
  exact .any _
 ·rw[show (List.replicate N (Value.chan none))[i]?=none from by simp; omega,oc_none]
  have:ts.getD i undef=undef:=by rw[Array.getD_eq_getD_getElem?,Array.getElem?_eq_none (by omega)]; rfl
  rw[this]; exact qo4_ σ
theorem keepT_ok {κ:Kap}{σ σ':Ren}(hκ:RenOK κ σ σ'){N:Nat}{T:Tr Value}{ts:Array Value}(hT:TR σ N T ts):∀ {l:List Nat} {T':Tr Value},keepT κ N T l=some T'→TR σ' N T' ts
 | [],T',h=>by obtain rfl:=oI h; exact anyT_TR hT.size σ'
 | i::l,T',h=>by
  obtain⟨hi,h⟩:=sel_none (b:=Nat.blt i N) (x:=oc (renV κ 9 (tget T i)) none fun v=>oc (keepT κ N T l) none fun t=>some (t.set i v)) h
  obtain⟨v,hv,h⟩:=oS h
  obtain⟨t,ht,h⟩:=oS h
  obtain rfl:=oI h
  have ih:=keepT_ok hκ hT ht
  refine⟨ih.size,fun j=>?_⟩
  rw[q08_]
  by_cases hj:j=i
  ·subst hj; rw[if_pos rfl]; exact quc_ hκ _ _ _ _ hv (hT.slot j)
  ·rw[if_neg hj]; exact ih.slot j
theorem qql_ {κ:Kap}{B:Tr ABlk}:∀ {l:List (Nat×Nat×Bool)} {B':Tr ABlk},keepB κ B l=some B'→∀ b y,B'.get b=some y→∃ x∈l,x.1=b∧∃ z,B.get x.2.1=some z∧renB κ x.2.2 z=some y
 | [],B',h,b,y,hb=>by obtain rfl:=oI h; cases hb
 | x::l,B',h,b,y,hb=>by
  obtain⟨z,hz,h⟩:=oS (o:=B.get x.2.1) (f:=fun b=>oc (renB κ x.2.2 b) none fun y=>oc (keepB κ B l) none fun t=>some (t.set x.1 y)) h
  obtain⟨u,hu,h⟩:=oS h
  obtain⟨t,ht,h⟩:=oS h
  obtain rfl:=oI h
  rw[Tr.get_set] at hb
  by_cases hbx:b=x.1
  ·rw[if_pos hbx] at hb
   obtain rfl:=oI hb
   exact⟨x,List.mem_cons_self ..,hbx.symm,z,hz,hu⟩
  ·rw[if_neg hbx] at hb
   obtain⟨x',h1,h2⟩:=qql_ ht b y hb
   exact⟨x',List.mem_cons_of_mem _ h1,h2⟩
theorem keepB_all {κ:Kap}{B:Tr ABlk}:∀ {l:List (Nat×Nat×Bool)} {B':Tr ABlk},keepB κ B l=some B'→∀ x∈l,∃ z,B.get x.2.1=some z
 | [],B',h,x,hx=>by cases hx
 | y::l,B',h,x,hx=>by
  obtain⟨z,hz,h⟩:=oS (o:=B.get y.2.1) (f:=fun b=>oc (renB κ y.2.2 b) none fun q=>oc (keepB κ B l) none fun t=>some (t.set y.1 q)) h
  obtain⟨u,hu,h⟩:=oS h
  obtain⟨t,ht,h⟩:=oS h
  rcases List.mem_cons.1 hx with rfl | hx
  ·exact⟨z,hz⟩
  ·exact keepB_all ht x hx
theorem qso_ {B:Tr ABlk}:∀ {l:List (Nat×Nat×Bool)},AllP (qwt_ B l)→∀ x∈l,x.2.2=true→∀ z,B.get x.2.1=some z→FlatB z
 | [],_,x,hx=>by cases hx
 | y::l,h,x,hx=>by
  intro hf z hz
  have h:AllP (sel y.2.2 (oc (B.get y.2.1) (qwt_ B l) fun b=>FlatB b::qwt_ B l) (qwt_ B l)):=h
  have hl:AllP (qwt_ B l):=by
   cases hy:y.2.2 with
   | false=>rw[hy] at h; exact h
   | true=>
    rw[hy,sel_true] at h
    cases hg:B.get y.2.1 with
    | none=>rw[hg] at h; exact h
    | some b=>rw[hg] at h; exact h.2
  rcases List.mem_cons.1 hx with rfl | hx
  ·rw[hf,sel_true,hz] at h
   exact h.1
  ·exact qso_ hl x hx hf z hz
theorem weakF_ok {N m:Nat}{k:WkS}{s s':XSt}{ps:List Prop}(h:weakF N m k s=some (s',ps))(hps:AllP ps):Wk N m s s':=by
 intro n0 σe we a w hm hX ⟨σ,hT,hD,hr,st⟩
 obtain⟨hb,h⟩:=sel_none h
 obtain⟨T,hT',h⟩:=oS h
 obtain⟨D,hD',h⟩:=oS h
 obtain⟨B,hB,h⟩:=oS h
 obtain⟨rfl,rfl⟩:=pI (oI h)
 simp only[bA] at hb
 obtain⟨hmn,hbl⟩:=hb
 have hmn:=qd1_ hmn
 let old:Nat→Option Nat:=fun b=>if b<m then some b else (k.blks.find? fun x=>x.1 == b).map (·.2.1)
 let σ':Ren:=⟨fun b=>if b<k.next then (old b).bind σ.f else none,σ.z⟩
 have hlow:∀ b,b<m→σ' b=σ b:=fun b hb=>by
  show (if b<k.next then (old b).bind σ.f else none)=σ b
  rw[if_pos (Nat.lt_of_lt_of_le hb hmn)]
  show ((if b<m then some b else _:Option Nat)).bind σ.f=σ b
  rw[if_pos hb]; rfl
 have hmem:∀ x∈k.blks,σ' x.1=σ x.2.1:=fun x hx=>by
  obtain⟨h1,h2,h3⟩:=qvv_ hbl x hx
  by_cases hxm:x.1<m
  ·rw[hlow _ hxm,h2 hxm]
  ·show (if x.1<k.next then (old x.1).bind σ.f else none)=σ x.2.1
   rw[if_pos h1]
   show ((if x.1<m then some x.1 else (k.blks.find? fun y=>y.1 == x.1).map (·.2.1):Option Nat)).bind σ.f=_
   rw[if_neg hxm]
   cases hf:k.blks.find? (fun y=>y.1 == x.1) with
   | none=>
    have:=List.find?_eq_none.1 hf x hx
    simp at this
   | some y=>
    have hy:=List.find?_some hf
    have hym:=List.mem_of_find?_eq_some hf
    have:y=x:=qzh_ hbl y hym x hx (.inl (by simpa using hy))
    subst this
    rfl
 have hback:∀ b t,σ' b=some t→(b<m∧σ b=some t)∨(m≤b∧∃ x∈k.blks,x.1=b∧(m≤x.2.1∨k.low≤x.2.1)∧σ x.2.1=some t):=fun b t ht=>by
  by_cases hb:b<m
  ·rw[hlow b hb] at ht; exact .inl ⟨hb,ht⟩
  ·refine .inr ⟨Nat.le_of_not_lt hb,?_⟩
   have ht:(if b<k.next then (old b).bind σ.f else none)=some t:=ht
   by_cases hn:b<k.next
   ·rw[if_pos hn] at ht
    have ht:((if b<m then some b else (k.blks.find? fun y=>y.1 == b).map (·.2.1):Option Nat)).bind σ.f=some t:=ht
    rw[if_neg hb] at ht
    cases hf:k.blks.find? (fun y=>y.1 == b) with
    | none=>rw[hf] at ht; cases ht
    | some y=>
     rw[hf] at ht
     have hy:=List.find?_some hf
     have hy:y.1=b:=by simpa using hy
     have hym:=List.mem_of_find?_eq_some hf
     exact⟨y,hym,hy,(qvv_ hbl y hym).2.2 (by omega),ht⟩
   ·rw[if_neg hn] at ht; cases ht
 have hκ:RenOK (kapW m k.blks) σ σ':=.plain (fun b b' hbb t ht=>by
  unfold kapW at hbb
  cases hf:qud_ k.blks b with
  | some x=>
   rw[hf,oc_some] at hbb
   obtain rfl:=oI hbb
   obtain⟨fl,hf⟩:=q0y_ hf
   rw[hmem _ hf]; exact ht
  | none=>
   rw[hf,oc_none] at hbb
   obtain⟨h1,h2⟩:=sel_none hbb
   obtain rfl:=oI h2
   rw[hlow _ (qfr_ h1)]; exact ht) fun _ _ _ h=>h
 have himg:∀ b c d mm,σ' b=some (c,d,mm)→c<w.heap.size:=fun b c d mm hb=>by
  rcases hback b _ hb with⟨_,h1⟩ | ⟨_,x,_,_,_,h1⟩
  ·exact hr.img _ _ _ _ h1
  ·exact hr.img _ _ _ _ h1
 refine⟨σ',keepT_ok hκ hT hT',mapO_DR hκ hD' hD,⟨hr.base,?_,?_,?_,himg,?_,hr.frz.mono (fun _ _ _ h=>h) (Nat.le_refl _) fun c hc hn=>⟨rfl,fun b t h=>by
  rcases hback b t h with⟨_,h⟩ | ⟨_,x,_,_,_,h⟩<;>exact hn _ _ h⟩⟩,?_⟩
 ·intro b y hby
  obtain⟨x,hx,rfl,z,hz,hzy⟩:=qql_ hB b y hby
  obtain⟨c,d,mm,h1,h2,h3⟩:=hr.blk _ _ hz
  refine⟨c,d,mm,?_,h2,renB_br hκ hzy (fun hf=>qso_ hps x hx hf z hz) h3⟩
  rw[hmem x hx]; exact h1
 ·intro b₁ b₂ x₁ x₂ c d₁ m₁ d₂ m₂ h1 h2 s1 s2
  obtain⟨y₁,hy₁,rfl,z₁,hz₁,_⟩:=qql_ hB b₁ x₁ h1
  obtain⟨y₂,hy₂,rfl,z₂,hz₂,_⟩:=qql_ hB b₂ x₂ h2
  rw[hmem _ hy₁] at s1
  rw[hmem _ hy₂] at s2
  have:=hr.inj _ _ _ _ _ _ _ _ _ hz₁ hz₂ s1 s2
  rw[qzh_ hbl _ hy₁ _ hy₂ (.inr this)]
 ·intro b t hb
  show b<k.next
  rcases hback b t hb with⟨h1,_⟩ | ⟨_,x,hx,rfl,_,_⟩
  ·exact Nat.lt_of_lt_of_le h1 hmn
  ·exact (qvv_ hbl x hx).1
 ·intro b hb
  have hbm:=hX b hb
  refine⟨Nat.lt_of_lt_of_le hbm hmn,?_⟩
  rw[hlow b hbm]; exact (hr.hol b hb).2
 ·have st:Step n0 σe we (Nat.min s.2.2.low m) σ w:=st
  show Step n0 σe we (Nat.min (Nat.min (Nat.min s.2.2.low m) k.low) m) σ' w
  have hle:Nat.min (Nat.min (Nat.min s.2.2.low m) k.low) m≤Nat.min s.2.2.low m:=Nat.le_trans (Nat.min_le_left _ _) (Nat.min_le_left _ _)
  have hle2:Nat.min (Nat.min (Nat.min s.2.2.low m) k.low) m≤k.low:=Nat.le_trans (Nat.min_le_left _ _) (Nat.min_le_right _ _)
  refine⟨⟨fun b t ht=>?_,fun j c d h=>st.ext.z j c d h⟩,st.below,fun c hc hb=>?_,fun c hc hb j d hj=>st.kz c hc (hb.imp id fun h b d mm hs=>Nat.lt_of_lt_of_le (h b d mm hs) hle) j d hj⟩
  ·rw[hlow b (hm b t ht).1]; exact st.ext b t ht
  ·obtain⟨h1,h2⟩:=st.keep c hc (hb.imp id fun h b d mm hs=>Nat.lt_of_lt_of_le (h b d mm hs) hle)
   refine⟨h1,fun b d mm hs=>?_⟩
   rcases hback b _ hs with⟨_,h3⟩ | ⟨hge,x,hx,rfl,hxm,h3⟩
   ·exact h2 b d mm h3
   ·exfalso
    have hse:=h2 _ d mm h3
    rcases hxm with hxm | hxm
    ·exact absurd (hm _ _ hse).1 (Nat.not_lt.2 hxm)
    ·rcases hb with hq | hb
     ·obtain⟨z,hz⟩:=keepB_all hB x hx
      obtain⟨c',d',m',e1,own,_⟩:=hr.blk _ _ hz
      rw[h3] at e1
      obtain⟨rfl,_⟩:=pI (oI e1)
      exact own.2 hq
     ·exact absurd (Nat.lt_of_lt_of_le (hb _ d mm hse) hle2) (Nat.not_lt.2 hxm)
def lookF (l:List (Nat×Nat))(b:Nat):Option Nat:=
 match l with
 | []=>none
 | x::l=>match Nat.beq x.1 b with
  | true=>some x.2
  | false=>lookF l b
theorem lookF_mem {l:List (Nat×Nat)}{b j:Nat}(h:lookF l b=some j):(b,j)∈l:=by
 induction l with
 | nil=>cases h
 | cons x l ih=>
  unfold lookF at h
  split at h
  ·rename_i he
   obtain rfl:=oI h
   obtain rfl:=nB he
   exact List.mem_cons_self ..
  ·exact List.mem_cons_of_mem _ (ih h)
theorem lookF_none {l:List (Nat×Nat)}{b:Nat}(h:lookF l b=none):∀ x∈l,x.1 ≠ b:=by
 induction l with
 | nil=>intro x hx; cases hx
 | cons y l ih=>
  unfold lookF at h
  split at h
  ·cases h
  ·rename_i he
   intro x hx
   rcases List.mem_cons.1 hx with rfl | hx
   ·intro e
    rw[e,Nat.beq_refl] at he; cases he
   ·exact ih h x hx
def isWinV (v:Value):Bool:=
 match v with
 | .slice (some ⟨_,_,some 1⟩) _ _=>true
 | _=>false
def frzV (v:Value):Bool:=flat v||isWinV v
theorem frzV_vr {σ:Ren}{v v':Value}(hf:frzV v=true)(h:VR σ v v'){τ:Ren}(ht:∀ j c d,σ.z j c d→τ.z j c d):VR τ v v':=by
 unfold frzV at hf
 cases hv:flat v with
 | true=>
  have e:=qfs_ hv h
  subst e
  exact qua_ hv τ
 | false=>
  rw[hv,Bool.false_or] at hf
  have mono:∀ {j b d},WinAt σ j b d→WinAt τ j b d:=fun h=>by
   cases h with
   | arg h hz=>exact .arg h hz
   | frz hz h1=>exact .frz hz (ht _ _ _ h1)
  cases h<;>first | exact .winS _ _ _ (mono ‹_›) ‹_› ‹_› | exact .winU _ _ _ _ (mono ‹_›) ‹_› ‹_› | exact .winU0 _ _ _ _ _ ‹_› | exact .win0 _ _ _ _ ‹_› | cases hf
def FrzP (c:Tr Value)(j:Nat):Prop:=Tabs.frz j=true∧∃ y,Tabs.win j=some y∧∀ i v,y.2.2[i]?=some v→(c.get i=some v∧frzV v=true)∨(c.get i=some (.slice none 0 0)∧v=.slice (some ⟨64,0,some 1⟩) 0 0)
def cellX (x:ABlk):Option (Tr Value):=
 match x with
 | .cells c _=>some c
 | _=>none
noncomputable def frzPs (B:Tr ABlk)(l:List (Nat×Nat)):Option (List Prop):=
 @List.rec (Nat×Nat) (fun _=>Option (List Prop)) (some []) (fun x _ ih=>oc (B.get x.1) none fun b=>oc (cellX b) none fun c=>oc ih none fun ps=>some (FrzP c x.2::ps)) l
theorem frzPs_mem {B:Tr ABlk}:∀ {l:List (Nat×Nat)} {ps:List Prop},frzPs B l=some ps→AllP ps→∀ x∈l,∃ c e,B.get x.1=some (.cells c e)∧FrzP c x.2
 | [],ps,_,_,x,hx=>by cases hx
 | y::l,ps,h,hp,x,hx=>by
  have h:(oc (B.get y.1) none fun b=>oc (cellX b) none fun c=>oc (frzPs B l) none fun ps=>some (FrzP c y.2::ps))=some ps:=h
  obtain⟨b,hb,h⟩:=oS h
  obtain⟨c,hc,h⟩:=oS h
  obtain⟨qs,hq,h⟩:=oS h
  obtain rfl:=oI h
  rcases List.mem_cons.1 hx with rfl | hx
  ·unfold cellX at hc
   split at hc
   ·obtain rfl:=oI hc
    exact⟨_,_,hb,hp.1⟩
   ·cases hc
  ·exact frzPs_mem hq hp.2 x hx
def memY:List Nat→Nat→Bool
 | [],_=>false
 | x::l,n=>match Nat.beq x n with
  | true=>true
  | false=>memY l n
noncomputable def kapF (B:Tr ABlk)(l:List (Nat×Nat))(nt:List Nat):Kap:=⟨fun b=>oc (lookF l b) (oc (B.get b) none fun _=>some b) fun _=>none,lookF l,true,memY nt⟩
def frzOk (m:Nat):List (Nat×Nat)→Bool
 | []=>true
 | x::l=>Nat.ble m x.1&&frzOk m l
def keepOk (l:List (Nat×Nat)):List (Nat×Nat×Bool)→Bool
 | []=>true
 | x::k=>Nat.beq x.1 x.2.1&&(match lookF l x.2.1 with | none=>true | some _=>false)&&keepOk l k
theorem frzOk_mem {m:Nat}:∀ {l:List (Nat×Nat)},frzOk m l=true→∀ x∈l,m≤x.1
 | [],_,x,hx=>by cases hx
 | y::l,h,x,hx=>by
  simp only[frzOk,bA] at h
  rcases List.mem_cons.1 hx with rfl | hx
  ·exact Nat.le_of_ble_eq_true h.1
  ·exact frzOk_mem h.2 x hx
theorem keepOk_mem {l:List (Nat×Nat)}:∀ {k:List (Nat×Nat×Bool)},keepOk l k=true→∀ x∈k,x.1=x.2.1∧lookF l x.2.1=none
 | [],_,x,hx=>by cases hx
 | y::k,h,x,hx=>by
  simp only[keepOk,bA] at h
  obtain⟨⟨h1,h2⟩,h3⟩:=h
  rcases List.mem_cons.1 hx with rfl | hx
  ·refine⟨nB h1,?_⟩
   cases hq:lookF l x.2.1 with
   | none=>rfl
   | some j=>rw[hq] at h2; cases h2
  ·exact keepOk_mem h3 x hx
def sameK (l:List (Nat×Nat×Bool)):List (Nat×Nat×Bool):=l.map fun x=>(x.2.1,x.2.1,x.2.2)
noncomputable def renS (κ:Kap)(ns:List Nat)(i:Nat)(v:Value):Option Value:=(@Bool.rec (fun _=>Value→Option Value) (renV κ 9) (nilE (renV κ 9)) (memY ns i)) v
noncomputable def keepN (κ:Kap)(N:Nat)(ns:List Nat)(T:Tr Value)(l:List Nat):Option (Tr Value):=
 @List.rec Nat (fun _=>Option (Tr Value)) (some (anyT N)) (fun i _ ih=>sel (Nat.blt i N) (oc (renS κ ns i (tget T i)) none fun v=>oc ih none fun t=>some (t.set i v)) none) l
theorem renS_vr {κ:Kap}{σ σ':Ren}(hκ:RenOK κ σ σ'){ns:List Nat}{i:Nat}{v u v':Value}(h:renS κ ns i v=some u)(hv:VR σ v v'):VR σ' u v':=nilE_vr (quc_ hκ 9) _ _ _ _ h hv
theorem keepN_ok {κ:Kap}{σ σ':Ren}(hκ:RenOK κ σ σ'){N:Nat}{ns:List Nat}{T:Tr Value}{ts:Array Value}(hT:TR σ N T ts):∀ {l:List Nat} {T':Tr Value},keepN κ N ns T l=some T'→TR σ' N T' ts
 | [],T',h=>by obtain rfl:=oI h; exact anyT_TR hT.size σ'
 | i::l,T',h=>by
  obtain⟨hi,h⟩:=sel_none (b:=Nat.blt i N) (x:=oc (renS κ ns i (tget T i)) none fun v=>oc (keepN κ N ns T l) none fun t=>some (t.set i v)) h
  obtain⟨v,hv,h⟩:=oS h
  obtain⟨t,ht,h⟩:=oS h
  obtain rfl:=oI h
  have ih:=keepN_ok hκ hT ht
  refine⟨ih.size,fun j=>?_⟩
  rw[q08_]
  by_cases hj:j=i
  ·subst hj; rw[if_pos rfl]; exact renS_vr hκ hv (hT.slot j)
  ·rw[if_neg hj]; exact ih.slot j
noncomputable def freezeF (N m:Nat)(k:WkS)(s:XSt):Option (XSt×List Prop):=
 sel (Nat.ble m s.2.2.low&&frzOk m k.frz&&keepOk k.frz (sameK k.blks)) (oc (keepN (kapF s.2.2.blocks k.frz k.nt) N k.ns s.1 k.slots) none fun T=>oc (mapO (renD (kapF s.2.2.blocks k.frz k.nt)) s.2.1) none fun D=>oc (keepB (kapF s.2.2.blocks k.frz k.nt) s.2.2.blocks (sameK k.blks)) none fun B=>
  oc (frzPs s.2.2.blocks k.frz) none fun qs=>some ((T,D,⟨B,s.2.2.next,s.2.2.low⟩),qwt_ s.2.2.blocks (sameK k.blks)++qs)) none
open Classical in
theorem qzi_ {N m:Nat}{k:WkS}{s s':XSt}{ps:List Prop}(h:freezeF N m k s=some (s',ps))(hps:AllP ps):Wk N m s s':=by
 intro n0 σe we a w hm hX ⟨σ,hT,hD,hr,st⟩
 obtain⟨hb,h⟩:=sel_none h
 obtain⟨T,hT',h⟩:=oS h
 obtain⟨D,hD',h⟩:=oS h
 obtain⟨B,hB,h⟩:=oS h
 obtain⟨qs,hq,h⟩:=oS h
 obtain⟨rfl,rfl⟩:=pI (oI h)
 obtain⟨hp1,hp2⟩:=AllP.append hps
 simp only[bA] at hb
 obtain⟨⟨hlow,hfo⟩,hko⟩:=hb
 have hlow:=Nat.le_of_ble_eq_true hlow
 have emin:Nat.min s.2.2.low m=m:=Nat.min_eq_right hlow
 have hfr:=frzPs_mem hq hp2
 have hkm:=keepOk_mem hko
 have hge:=frzOk_mem hfo
 have new:∀ x∈k.frz,∀ c d mm,σ x.1=some (c,d,mm)→∀ b t,σe b=some t→t.1 ≠ c:=fun x hx c d mm hs b t hb e=>by
  obtain⟨h1,h2⟩:=hm b t hb
  have hk:=st.keep c (by rw[←e]; exact h2) (.inr fun b' d' m' hs'=>by rw[emin]; exact (hm b' _ hs').1)
  have h3:=(hm _ _ (hk.2 _ _ _ hs)).1
  have:=hge x hx
  omega
 let σ':Ren:=⟨fun b=>if (∃ t,σe b=some t)∨((∃ y,s.2.2.blocks.get b=some y)∧lookF k.frz b=none) then σ b else none,fun j c d=>σ.z j c d∨∃ x∈k.frz,x.2=j∧∃ mm,σ x.1=some (c,d,mm)⟩
 have hsub:∀ b t,σ' b=some t→σ b=some t∧((∃ t,σe b=some t)∨((∃ y,s.2.2.blocks.get b=some y)∧lookF k.frz b=none)):=fun b t ht=>by
  have ht:(if (∃ t,σe b=some t)∨((∃ y,s.2.2.blocks.get b=some y)∧lookF k.frz b=none) then σ b else none)=some t:=ht
  by_cases hc:(∃ t,σe b=some t)∨((∃ y,s.2.2.blocks.get b=some y)∧lookF k.frz b=none)
  ·rw[if_pos hc] at ht; exact⟨ht,hc⟩
  ·rw[if_neg hc] at ht; cases ht
 have hliv:∀ b y,s.2.2.blocks.get b=some y→lookF k.frz b=none→σ' b=σ b:=fun b y hy hl=>if_pos (.inr ⟨⟨y,hy⟩,hl⟩)
 have hent:∀ b t,σe b=some t→σ' b=some t:=fun b t hb=>by
  show (if _ then σ b else none)=some t
  rw[if_pos (.inl ⟨t,hb⟩)]; exact st.ext b t hb
 have hκ:RenOK (kapF s.2.2.blocks k.frz k.nt) σ σ':=by
  refine⟨fun b b' hbb t ht=>?_,fun j c d h=>.inl h,fun b j hj=>?_⟩
  ·have hbb:oc (lookF k.frz b) (oc (s.2.2.blocks.get b) none fun _=>some b) (fun _=>none)=some b':=hbb
   cases hl:lookF k.frz b with
   | none=>
    rw[hl,oc_none] at hbb
    obtain⟨y,hy,hbb⟩:=oS hbb
    obtain rfl:=oI hbb
    rw[hliv b y hy hl]; exact ht
   | some j=>rw[hl,oc_some] at hbb; cases hbb
  ·have hmem:=lookF_mem (show lookF k.frz b=some j from hj)
   obtain⟨c,e,_,hF⟩:=hfr _ hmem
   exact⟨hF.1,fun c d mm hs=>.inr ⟨_,hmem,rfl,mm,hs⟩⟩
 have hfrz:FrzOK σ' w:=by
  intro j c d hz
  rcases hz with hz | ⟨x,hx,rfl,mm,hs⟩
  ·obtain⟨h1,h2,h3,h4⟩:=hr.frz j c d hz
   obtain⟨y,h4,h5⟩:=h4
   exact⟨h1,h2,fun b t hb=>h3 b t (hsub b t hb).1,y,h4,fun i v hv=>by
    obtain⟨v',g1,g2⟩:=h5 i v hv
    exact⟨v',g1,fun τ ht=>g2 τ fun j c d h=>ht j c d (.inl h)⟩⟩
  ·obtain⟨cc,e,hg,hF1,y,hy,hF2⟩:=hfr x hx
   obtain⟨c',d',m',hs',_,C,hC1,hC2,hC3⟩:=hr.blk _ _ hg
   rw[hs] at hs'
   obtain⟨rfl,h2⟩:=pI (oI hs')
   obtain⟨rfl,rfl⟩:=pI h2
   refine⟨hF1,hr.img _ _ _ _ hs,fun b t hb e'=>?_,y,hy,fun i v hv=>?_⟩
   ·obtain⟨g1,g2⟩:=hsub b t hb
    rcases g2 with⟨t',ht'⟩ | ⟨⟨z,hz⟩,hl⟩
    ·have e3:=st.ext b t' ht'
     rw[g1] at e3
     obtain rfl:=oI e3
     exact new x hx c d mm hs b t ht' e'
    ·obtain⟨c3,d3,m3⟩:=t
     obtain rfl:c3=c:=e'
     have:=hr.inj _ _ _ _ _ _ _ _ _ hz hg g1 hs
     subst this
     exact lookF_none hl x hx rfl
   ·rcases hF2 i v hv with⟨k1,k2⟩ | ⟨k1,rfl⟩
    ·obtain⟨v',k3,k4⟩:=hC3 i v k1
     refine⟨v',?_,fun τ ht=>frzV_vr k2 k4 fun j c d h=>ht j c d (.inl h)⟩
     rw[qg1_ hC1]; exact k3
    ·obtain⟨v',k3,k4⟩:=hC3 i _ k1
     refine⟨v',?_,fun τ ht=>?_⟩
     ·rw[qg1_ hC1]; exact k3
     ·cases k4; exact .win0 _ _ _ _ (by decide)
 refine⟨σ',keepN_ok hκ hT hT',mapO_DR hκ hD' hD,⟨hr.base,?_,?_,fun b t ht=>hr.dom b t (hsub b t ht).1,fun b c d mm hb=>hr.img b c d mm (hsub b _ hb).1,fun b hb=>⟨(hr.hol b hb).1,?_⟩,hfrz⟩,⟨⟨hent,fun j c d h=>.inl (st.ext.z j c d h)⟩,st.below,fun c hc hb=>?_,fun c hc hb j d hj=>?_⟩⟩
 ·intro b y hby
  obtain⟨x,hx,rfl,z,hz,hzy⟩:=qql_ hB b y hby
  obtain⟨h1,h2⟩:=hkm x hx
  obtain⟨c,d,mm,g1,g2,g3⟩:=hr.blk _ _ hz
  refine⟨c,d,mm,?_,g2,renB_br hκ hzy (fun hf=>qso_ hp1 x hx hf z hz) g3⟩
  rw[h1,hliv _ z hz h2]; exact g1
 ·intro b₁ b₂ x₁ x₂ c d₁ m₁ d₂ m₂ h1 h2 s1 s2
  obtain⟨y₁,hy₁,rfl,z₁,hz₁,_⟩:=qql_ hB b₁ x₁ h1
  obtain⟨y₂,hy₂,rfl,z₂,hz₂,_⟩:=qql_ hB b₂ x₂ h2
  have e1:=(hkm _ hy₁).1
  have e2:=(hkm _ hy₂).1
  rw[e1] at s1 ⊢
  rw[e2] at s2 ⊢
  exact hr.inj _ _ _ _ _ _ _ _ _ hz₁ hz₂ (hsub _ _ s1).1 (hsub _ _ s2).1
 ·cases hs:σ' b with
  | none=>rfl
  | some t=>
   have:=(hsub b t hs).1
   rw[(hr.hol b hb).2] at this; cases this
 ·obtain⟨h1,h2⟩:=st.keep c hc hb
  exact⟨h1,fun b d mm hs=>h2 b d mm (hsub b _ hs).1⟩
 ·rcases hj with hj | ⟨x,hx,rfl,mm,hs⟩
  ·exact st.kz c hc hb j d hj
  ·have h3:=(hm _ _ ((st.keep c hc hb).2 _ _ _ hs)).1
   have:=hge x hx
   omega
noncomputable def freeze2 (N m:Nat)(k:WkS)(s:XSt):Option (XSt×List Prop):=
 match k.frz2 with
 | []=>freezeF N m k s
 | _::_=>oc (freezeF N m { k with blks:=k.blks++k.frz2.map fun x=>(x.1,x.1,false) } s) none fun r=>oc (freezeF N m { k with frz:=k.frz2 } r.1) none fun q=>some (q.1,r.2++q.2)
theorem freeze2_ok {N m:Nat}{k:WkS}{s s':XSt}{ps:List Prop}(h:freeze2 N m k s=some (s',ps))(hps:AllP ps):Wk N m s s':=by
 unfold freeze2 at h
 split at h
 ·exact qzi_ h hps
 ·obtain⟨r,hr,h⟩:=oS h
  obtain⟨q,hq,h⟩:=oS h
  obtain⟨rfl,rfl⟩:=pI (oI h)
  obtain⟨h1,h2⟩:=AllP.append hps
  exact (qzi_ (s':=r.1) (ps:=r.2) hr h1).trans (qzi_ (s':=q.1) (ps:=q.2) hq h2)
noncomputable def weakW (N m:Nat)(k:WkS)(s:XSt):Option (XSt×List Prop):=
 match k.nz with
 | false=>weakF N m k s
 | true=>oc (freeze2 N m k s) none fun r=>oc (weakF N m k r.1) none fun q=>some (q.1,r.2++q.2)
theorem qzj_ {N m:Nat}{k:WkS}{s s':XSt}{ps:List Prop}(h:weakW N m k s=some (s',ps))(hps:AllP ps):Wk N m s s':=by
 unfold weakW at h
 split at h
 ·exact weakF_ok h hps
 ·obtain⟨r,hr,h⟩:=oS h
  obtain⟨q,hq,h⟩:=oS h
  obtain⟨rfl,rfl⟩:=pI (oI h)
  obtain⟨h1,h2⟩:=AllP.append hps
  exact (freeze2_ok (s':=r.1) (ps:=r.2) hr h1).trans (weakF_ok (s':=q.1) (ps:=q.2) hq h2)
end Go.Proofs.YthlikofobjhcoaaGreat.Ax
namespace Go.Proofs.YthlikofobjhcoaaGreat.Ax
open Go.RowKit
variable [Tabs]
def Gv (P:Program)(fn:Fn)(args:List Value)(H:AH)(v:Value)(H':AH):Prop:=
 ∀ (n0:Bs) (σ:Ren) (w:World) (fn':Fn) (args':Array Value),FnR σ fn fn'→VRs σ args args'.toList→HR n0 σ H w→CallGo P n0 σ w v H' args' fn'
def CallU (P:Program)(call:CallT):Prop:=∀ n,qn1_ P n call
open Classical in
noncomputable def oneC (fn0:Fn)(args0:List Value)(H0:AH)(r:Value×AH):CallT:=fun fn args H=>if fn=fn0∧args=args0∧H=H0 then some r else none
theorem oneC_hit (fn:Fn)(args:List Value)(H:AH)(r:Value×AH):oneC fn args H r fn args H=some r:=by simp[oneC]
theorem oneC_ok {P:Program}{fn0:Fn}{args0:List Value}{H0 H0':AH}{v0:Value}(h:Gv P fn0 args0 H0 v0 H0'):CallU P (oneC fn0 args0 H0 (v0,H0')):=by
 intro n Q X fn args H v H' hc σ w fn' args' hfn hargs hr
 unfold oneC at hc
 split at hc
 ·rename_i he
  obtain⟨rfl,rfl,rfl⟩:=he
  obtain⟨rfl,rfl⟩:=pI (oI hc)
  exact h ⟨⟨n,Q⟩,X⟩ σ w fn' args' hfn hargs hr
 ·cases hc
theorem noneC_ok (P:Program):CallU P (fun _ _ _=>none):=fun n Q X fn args H v H' h=>by cases h
abbrev BL:=List (Nat×Nat×Bool)
noncomputable def addK (κ:Kap)(B base:Tr ABlk)(l:BL):Option (Tr ABlk):=
 @List.rec (Nat×Nat×Bool) (fun _=>Option (Tr ABlk)) (some base) (fun x _ ih=>oc (B.get x.2.1) none fun b=>oc (renB κ x.2.2 b) none fun y=>oc ih none fun t=>some (t.set x.1 y)) l
theorem addK_cons (κ:Kap)(B base:Tr ABlk)(x:Nat×Nat×Bool)(l:BL):addK κ B base (x::l)=oc (B.get x.2.1) none fun b=>oc (renB κ x.2.2 b) none fun y=>oc (addK κ B base l) none fun t=>some (t.set x.1 y):=rfl
theorem qwu_ {κ:Kap}{B base:Tr ABlk}:∀ {l:BL} {B':Tr ABlk},addK κ B base l=some B'→∀ b y,B'.get b=some y→(∃ x∈l,x.1=b∧∃ z,B.get x.2.1=some z∧renB κ x.2.2 z=some y)∨base.get b=some y
 | [],B',h,b,y,hb=>by obtain rfl:=oI h; exact .inr hb
 | x::l,B',h,b,y,hb=>by
  rw[addK_cons] at h
  obtain⟨z,hz,h⟩:=oS h
  obtain⟨u,hu,h⟩:=oS h
  obtain⟨t,ht,h⟩:=oS h
  obtain rfl:=oI h
  rw[Tr.get_set] at hb
  by_cases hbx:b=x.1
  ·rw[if_pos hbx] at hb
   obtain rfl:=oI hb
   exact .inl ⟨x,List.mem_cons_self ..,hbx.symm,z,hz,hu⟩
  ·rw[if_neg hbx] at hb
   rcases qwu_ ht b y hb with⟨x',h1,h2⟩ | h1
   ·exact .inl ⟨x',List.mem_cons_of_mem _ h1,h2⟩
   ·exact .inr h1
theorem addK_all {κ:Kap}{B base:Tr ABlk}:∀ {l:BL} {B':Tr ABlk},addK κ B base l=some B'→∀ x∈l,∃ z,B.get x.2.1=some z
 | [],B',h,x,hx=>by cases hx
 | y::l,B',h,x,hx=>by
  rw[addK_cons] at h
  obtain⟨z,hz,h⟩:=oS h
  obtain⟨u,hu,h⟩:=oS h
  obtain⟨t,ht,h⟩:=oS h
  rcases List.mem_cons.1 hx with rfl | hx
  ·exact⟨z,hz⟩
  ·exact addK_all ht x hx
noncomputable def dropK (lo:Nat)(B:Tr ABlk)(l:BL):Tr ABlk:=
 @List.rec (Nat×Nat×Bool) (fun _=>Tr ABlk) B (fun x _ ih=>sel (Nat.ble lo x.1) (ih.put x.2.1 none) ih) l
theorem dropK_cons (lo:Nat)(B:Tr ABlk)(x:Nat×Nat×Bool)(l:BL):dropK lo B (x::l)=sel (Nat.ble lo x.1) ((dropK lo B l).put x.2.1 none) (dropK lo B l):=rfl
theorem qx6_ {lo:Nat}{B:Tr ABlk}:∀ {l:BL} {b:Nat} {y:ABlk},(dropK lo B l).get b=some y→B.get b=some y∧∀ x∈l,lo≤x.1→x.2.1 ≠ b
 | [],b,y,h=>⟨h,fun x hx=>by cases hx⟩
 | x::l,b,y,h=>by
  rw[dropK_cons] at h
  cases hx:Nat.ble lo x.1 with
  | false=>
   rw[hx,sel_false] at h
   obtain⟨h1,h2⟩:=qx6_ h
   refine⟨h1,fun x' hx' hl=>?_⟩
   rcases List.mem_cons.1 hx' with rfl | hx'
   ·rw[Nat.ble_eq_true_of_le hl] at hx; cases hx
   ·exact h2 x' hx' hl
  | true=>
   rw[hx,sel_true,Tr.get_put] at h
   by_cases hb:b=x.2.1
   ·rw[if_pos hb] at h; cases h
   ·rw[if_neg hb] at h
    obtain⟨h1,h2⟩:=qx6_ h
    refine⟨h1,fun x' hx' hl=>?_⟩
    rcases List.mem_cons.1 hx' with rfl | hx'
    ·exact fun e=>hb e.symm
    ·exact h2 x' hx' hl
noncomputable def lowK (lo low:Nat)(l:BL):Nat:=
 @List.rec (Nat×Nat×Bool) (fun _=>Nat) low (fun x _ ih=>sel (Nat.ble lo x.1) (Nat.min ih x.2.1) ih) l
theorem lowK_cons (lo low:Nat)(x:Nat×Nat×Bool)(l:BL):lowK lo low (x::l)=sel (Nat.ble lo x.1) (Nat.min (lowK lo low l) x.2.1) (lowK lo low l):=rfl
theorem lowK_le {lo low:Nat}:∀ {l:BL},lowK lo low l≤low∧∀ x∈l,lo≤x.1→lowK lo low l≤x.2.1
 | []=>⟨Nat.le_refl _,fun x hx=>by cases hx⟩
 | x::l=>by
  obtain⟨h1,h2⟩:=lowK_le (lo:=lo) (low:=low) (l:=l)
  rw[lowK_cons]
  cases hx:Nat.ble lo x.1 with
  | false=>
   rw[sel_false]
   refine⟨h1,fun x' hx' hl=>?_⟩
   rcases List.mem_cons.1 hx' with rfl | hx'
   ·rw[Nat.ble_eq_true_of_le hl] at hx; cases hx
   ·exact h2 x' hx' hl
  | true=>
   rw[sel_true]
   refine⟨Nat.le_trans (Nat.min_le_left _ _) h1,fun x' hx' hl=>?_⟩
   rcases List.mem_cons.1 hx' with rfl | hx'
   ·exact Nat.min_le_right _ _
   ·exact Nat.le_trans (Nat.min_le_left _ _) (h2 x' hx' hl)
def qrl_ (l:BL)(i:Nat):Option Nat:=
 match l with
 | []=>none
 | x::l=>match Nat.beq x.1 i with
  | true=>some x.2.1
  | false=>qrl_ l i
noncomputable def rhoK (l:BL)(k nx i:Nat):Option Nat:=sel (Nat.blt i k) (qrl_ l i) (some (Nat.add nx (Nat.sub i k)))
def canOk (k:Nat):BL→Bool
 | []=>true
 | x::l=>Nat.blt x.1 k&&(freshB x.1 l&&freshO x.2.1 l)&&canOk k l
theorem q1r_ {k:Nat}:∀ {l:BL},canOk k l=true→∀ x∈l,x.1<k
 | [],_,x,hx=>by cases hx
 | y::l,h,x,hx=>by
  simp only[canOk,bA] at h
  rcases List.mem_cons.1 hx with rfl | hx
  ·exact qfr_ h.1.1
  ·exact q1r_ h.2 x hx
theorem q1s_ {k:Nat}:∀ {l:BL},canOk k l=true→∀ x∈l,∀ y∈l,(x.1=y.1∨x.2.1=y.2.1)→x=y
 | [],_,x,hx=>by cases hx
 | z::l,h,x,hx=>by
  intro y hy he
  simp only[canOk,bA] at h
  obtain⟨⟨_,h1,h2⟩,h3⟩:=h
  rcases List.mem_cons.1 hx with e1 | hx1<;>rcases List.mem_cons.1 hy with e2 | hy1
  ·rw[e1,e2]
  ·subst e1
   rcases he with he | he
   ·exact absurd he.symm (qsm_ h1 y hy1)
   ·exact absurd he.symm (qsn_ h2 y hy1)
  ·subst e2
   rcases he with he | he
   ·exact absurd he (qsm_ h1 x hx1)
   ·exact absurd he (qsn_ h2 x hx1)
  ·exact q1s_ h3 x hx1 y hy1 he
theorem qwv_ {l:BL}{i b:Nat}(h:qrl_ l i=some b):∃ fl,(i,b,fl)∈l:=by
 induction l with
 | nil=>cases h
 | cons x l ih=>
  unfold qrl_ at h
  split at h
  ·rename_i he
   obtain rfl:=oI h
   obtain rfl:=nB he
   exact⟨x.2.2,List.mem_cons_self ..⟩
  ·obtain⟨fl,hf⟩:=ih h
   exact⟨fl,List.mem_cons_of_mem _ hf⟩
theorem mem_findOld {l:BL}{x:Nat×Nat×Bool}(hx:x∈l):∃ b,qrl_ l x.1=some b:=by
 induction l with
 | nil=>cases hx
 | cons y l ih=>
  unfold qrl_
  split
  ·exact⟨_,rfl⟩
  ·rename_i he
   rcases List.mem_cons.1 hx with rfl | hx
   ·rw[Nat.beq_refl] at he; cases he
   ·exact ih hx
theorem canOk_find {k:Nat}{l:BL}(h:canOk k l=true){x:Nat×Nat×Bool}(hx:x∈l):qrl_ l x.1=some x.2.1:=by
 obtain⟨b,hb⟩:=mem_findOld hx
 obtain⟨fl,hf⟩:=qwv_ hb
 have:=q1s_ h _ hf _ hx (.inl rfl)
 rw[hb,←this]
structure CallA where
 k:Nat
 ins:BL
 v:Value
 H1:AH
 outs:BL
noncomputable def outsOk (l:BL)(k nx:Nat):BL→Bool
 | []=>true
 | x::m=>oc (rhoK l k nx x.2.1) false (fun b=>Nat.beq b x.1)&&outsOk l k nx m
theorem qvw_ {l:BL}{k nx:Nat}:∀ {m:BL},outsOk l k nx m=true→∀ x∈m,rhoK l k nx x.2.1=some x.1
 | [],_,x,hx=>by cases hx
 | y::m,h,x,hx=>by
  simp only[outsOk,bA] at h
  rcases List.mem_cons.1 hx with rfl | hx
  ·cases hr:rhoK l k nx x.2.1 with
   | none=>rw[hr] at h; exact absurd h.1 Bool.false_ne_true
   | some b=>rw[hr] at h; rw[nB h.1]
  ·exact qvw_ h.2 x hx
noncomputable def frameR (c:CallA)(args:List Value)(H:AH):Option ((List Value×Tr ABlk)×(Value×AH)):=
 sel (canOk c.k c.ins&&(Nat.ble c.k c.H1.next&&outsOk c.ins c.k H.next c.outs)) (oc (mapO (renV (qud_ c.ins) 9) args) none fun a0=>oc (addK (qud_ c.ins) H.blocks .nil c.ins) none fun B0=>
  oc (renV (rhoK c.ins c.k H.next) 9 c.v) none fun v=>oc (addK (rhoK c.ins c.k H.next) c.H1.blocks (dropK c.H1.low H.blocks c.ins) c.outs) none fun B1=>
   some ((a0,B0),(v,⟨B1,Nat.add H.next (Nat.sub c.H1.next c.k),lowK c.H1.low H.low c.ins⟩))) none
theorem frame_ok {P:Program}{f f0:Fn}{c:CallA}{args a0:List Value}{H H':AH}{B0:Tr ABlk}{v:Value}(h:frameR c args H=some ((a0,B0),(v,H')))(hff:renFn (qud_ c.ins) f=some f0)(hG:Gv P f0 a0 ⟨B0,c.k,c.k⟩ c.v c.H1)(hf1:AllP (qwt_ H.blocks c.ins))(hf2:AllP (qwt_ c.H1.blocks c.outs)) :
  Gv P f args H v H':=by
 obtain⟨k,ins,v0,H1,outs⟩:=c
 obtain⟨hb,h⟩:=sel_none h
 obtain⟨a0',ha,h⟩:=oS h
 obtain⟨B0',hB0,h⟩:=oS h
 obtain⟨v',hv,h⟩:=oS h
 obtain⟨B1,hB1,h⟩:=oS h
 have h:=oI h
 obtain⟨h1,h2⟩:=pI h
 obtain⟨rfl,rfl⟩:=pI h1
 obtain⟨rfl,rfl⟩:=pI h2
 simp only[bA] at hb
 obtain⟨hcan,hkn,houts⟩:=hb
 have hkn:=qd1_ hkn
 simp only at ha hB0 hv hB1 hcan hkn houts hG hf1 hf2 hff
 have hadd:∀ a b,Nat.add a b=a+b:=fun _ _=>rfl
 have hsub:∀ a b,Nat.sub a b=a-b:=fun _ _=>rfl
 intro n0 σ w fn' args' hfn hargs hr
 let σ0:Ren:=⟨fun i=>if i<k then (qrl_ ins i).bind σ.f else none,σ.z⟩
 have hmem:∀ x∈ins,σ0 x.1=σ x.2.1:=fun x hx=>by
  show (if x.1<k then (qrl_ ins x.1).bind σ.f else none)=σ x.2.1
  rw[if_pos (q1r_ hcan x hx),canOk_find hcan hx]; rfl
 have hback:∀ i t,σ0 i=some t→∃ x∈ins,x.1=i∧σ x.2.1=some t:=fun i t ht=>by
  have ht:(if i<k then (qrl_ ins i).bind σ.f else none)=some t:=ht
  by_cases hi:i<k
  ·rw[if_pos hi] at ht
   cases hf:qrl_ ins i with
   | none=>rw[hf] at ht; cases ht
   | some b=>
    rw[hf] at ht
    obtain⟨fl,hm⟩:=qwv_ hf
    exact⟨_,hm,rfl,ht⟩
  ·rw[if_neg hi] at ht; cases ht
 have h0dom:∀ i t,σ0 i=some t→i<k:=fun i t ht=>by
  obtain⟨x,hx,rfl,_⟩:=hback i t ht
  exact q1r_ hcan x hx
 have hκ:RenOK (qud_ ins) σ σ0:=.plain (fun b b' hbb t ht=>by
  obtain⟨fl,hm⟩:=q0y_ hbb
  rw[hmem _ hm]; exact ht) fun _ _ _ h=>h
 have hpres:∀ x∈ins,∃ z,H.blocks.get x.2.1=some z:=fun x hx=>addK_all hB0 x hx
 let Q':Nat→Prop:=fun c=>n0.n.Q c∨∃ b y d m,H.blocks.get b=some y∧(∀ x∈ins,x.2.1 ≠ b)∧σ b=some (c,d,m)
 have hr0:HR ⟨⟨n0.n.n,Q'⟩,fun _=>False⟩ σ0 ⟨B0',k,k⟩ w:=by
  refine⟨⟨hr.base.1,fun c hc=>?_,hr.base.2.2⟩,?_,?_,fun i t ht=>h0dom i t ht,?_,fun b hb=>hb.elim,hr.frz.mono (fun _ _ _ h=>h) (Nat.le_refl _) fun c hc hn=>⟨rfl,fun i t hi=>by
   obtain⟨x,hx,_,hs⟩:=hback i _ hi
   exact hn _ _ hs⟩⟩
  ·rcases hc with hc | ⟨b,y,d,m,_,_,hs⟩
   ·exact hr.base.2.1 c hc
   ·exact hr.img _ _ _ _ hs
  ·intro i y hy
   rcases qwu_ hB0 i y hy with⟨x,hx,rfl,z,hz,hzy⟩ | hn
   ·obtain⟨c,d,m,h1,h2,h3⟩:=hr.blk _ _ hz
    refine⟨c,d,m,by rw[hmem x hx]; exact h1,⟨h2.1,fun hq=>?_⟩,renB_br hκ hzy (fun hf=>qso_ hf1 x hx hf z hz) h3⟩
    rcases hq with hq | ⟨b,y',d',m',g1,g2,g3⟩
    ·exact h2.2 hq
    ·exact g2 x hx (hr.inj _ _ _ _ _ _ _ _ _ hz g1 h1 g3)
   ·cases hn
  ·intro i₁ i₂ x₁ x₂ c d₁ m₁ d₂ m₂ h1 h2 s1 s2
   rcases qwu_ hB0 i₁ x₁ h1 with⟨y₁,hy₁,rfl,z₁,hz₁,_⟩ | hn
   ·rcases qwu_ hB0 i₂ x₂ h2 with⟨y₂,hy₂,rfl,z₂,hz₂,_⟩ | hn
    ·rw[hmem _ hy₁] at s1
     rw[hmem _ hy₂] at s2
     have:=hr.inj _ _ _ _ _ _ _ _ _ hz₁ hz₂ s1 s2
     rw[q1s_ hcan _ hy₁ _ hy₂ (.inr this)]
    ·cases hn
   ·cases hn
  ·intro i c d m hi
   obtain⟨x,hx,rfl,hs⟩:=hback i _ hi
   exact hr.img _ _ _ _ hs
 have hGo:=hG ⟨⟨n0.n.n,Q'⟩,fun _=>False⟩ σ0 w fn' args' (renFn_r hκ hff hfn) (qxb_ (fun v u v' a b=>quc_ hκ _ _ _ _ a b) ha hargs) hr0
 suffices key:∀ e w',RetOK ⟨⟨n0.n.n,Q'⟩,fun _=>False⟩ σ0 w v0 H1 e w'→RetOK n0 σ w v' ⟨B1,Nat.add H.next (Nat.sub H1.next k),lowK H1.low H.low ins⟩ e w' by
  cases hfn with
  | func f=>
   obtain⟨g1,g2⟩:=hGo
   exact⟨g1,fun n=>CallsIn.mono (g2 n) key⟩
  | yield hl=>
   obtain⟨g,ts,as,bd,e1,e2⟩:=hGo
   exact⟨g,ts,as,bd,e1,fun n=>RoundIn.mono (e2 n) key⟩
  | method s=>exact hGo.elim
 rintro e w' ⟨u,σ1,rfl,q1,q2,q3⟩
 let nx':=H.next+(H1.next-k)
 let σ':Ren:=⟨fun b=>if b<H.next then σ b else if b<nx' then σ1 (k+(b-H.next)) else none,σ1.z⟩
 have hlow':∀ b,b<H.next→σ' b=σ b:=fun b hb=>if_pos hb
 have hnew':∀ i,k≤i→i<H1.next→σ' (H.next+(i-k))=σ1 i:=fun i h1 h2=>by
  show (if H.next+(i-k)<H.next then _ else if H.next+(i-k)<nx' then σ1 (k+(H.next+(i-k)-H.next)) else none)=_
  rw[if_neg (by omega),if_pos (by show H.next+(i-k)<H.next+(H1.next-k); omega)]
  congr 1; omega
 have hext:σ.Ext σ':=⟨fun b t hb=>by rw[hlow' b (hr.dom b t hb)]; exact hb,fun j c d h=>q3.ext.z j c d h⟩
 have hback':∀ b t,σ' b=some t→(b<H.next∧σ b=some t)∨(b<nx'∧k≤k+(b-H.next)∧H.next≤b∧σ1 (k+(b-H.next))=some t):=fun b t hb=>by
  have hb:(if b<H.next then σ b else if b<nx' then σ1 (k+(b-H.next)) else none)=some t:=hb
  by_cases h1:b<H.next
  ·rw[if_pos h1] at hb; exact .inl ⟨h1,hb⟩
  ·rw[if_neg h1] at hb
   by_cases h2:b<nx'
   ·rw[if_pos h2] at hb; exact .inr ⟨h2,Nat.le_add_right _ _,Nat.le_of_not_lt h1,hb⟩
   ·rw[if_neg h2] at hb; cases hb
 have hρ:RenOK (rhoK ins k H.next) σ1 σ':=.plain (fun i b' hbb t ht=>by
  rcases qa_ hbb with⟨h1,h2⟩ | ⟨h1,h2⟩
  ·obtain⟨fl,hm⟩:=qwv_ h2
   obtain⟨z,hz⟩:=hpres _ hm
   obtain⟨c,d,m,s1,_,_⟩:=hr.blk _ _ hz
   have s0:σ0 i=some (c,d,m):=by rw[hmem _ hm]; exact s1
   have e:=q3.ext _ _ s0
   rw[ht] at e
   rw[hext _ _ s1,e]
  ·obtain rfl:=oI h2
   have hk:k≤i:=by
    rcases Nat.lt_or_ge i k with hl | hl
    ·have:Nat.blt i k=true:=by simpa [Nat.blt_eq] using hl
     rw[this] at h1; cases h1
    ·exact hl
   rw[hadd,hsub,hnew' i hk (q2.dom _ _ ht)]; exact ht) fun _ _ _ h=>h
 have hlk:=lowK_le (lo:=H1.low) (low:=H.low) (l:=ins)
 have keepQ:∀ c,c<w.heap.size→(n0.n.Q c∨∀ b d m,σ b=some (c,d,m)→b<lowK H1.low H.low ins)→(Q' c∨∀ b d m,σ0 b=some (c,d,m)→b<H1.low):=fun c hc hq=>by
  rcases hq with hq | hq
  ·exact .inl (.inl hq)
  ·refine .inr fun i d m hs=>?_
   obtain⟨x,hx,rfl,h1⟩:=hback i _ hs
   rcases Nat.lt_or_ge x.1 H1.low with hl | hl
   ·exact hl
   ·have a1:=hq _ _ _ h1
    have a2:=hlk.2 x hx hl
    omega
 have keepO:∀ b y c d m,H.blocks.get b=some y→(∀ x∈ins,H1.low≤x.1→x.2.1 ≠ b)→σ b=some (c,d,m)→w'.heap[c]?=w.heap[c]?∧∀ b d m,σ1 b=some (c,d,m)→σ0 b=some (c,d,m):=fun b y c d m hb hne hs=>by
  refine q3.keep c (hr.img _ _ _ _ hs) ?_
  by_cases hin:∃ x∈ins,x.2.1=b
  ·refine .inr fun i d' m' hi=>?_
   obtain⟨x,hx,rfl,h1⟩:=hback i _ hi
   obtain⟨z,hz⟩:=hpres x hx
   have e:=hr.inj _ _ _ _ _ _ _ _ _ hz hb h1 hs
   rcases Nat.lt_or_ge x.1 H1.low with hl | hl
   ·exact hl
   ·exact absurd e (hne x hx hl)
  ·exact .inl (.inr ⟨b,y,d,m,hb,fun x hx e=>hin ⟨x,hx,e⟩,hs⟩)
 refine⟨u,σ',rfl,quc_ hρ _ _ _ _ hv q1,⟨⟨q2.base.1,fun c hc=>q2.base.2.1 c (.inl hc),q2.base.2.2⟩,?_,?_,?_,?_,?_,?_⟩,⟨hext,q3.below,?_,fun c hc hq j d hj=>q3.kz c hc (keepQ c hc hq) j d hj⟩⟩
 ·intro b y hy
  rcases qwu_ hB1 b y hy with⟨x,hx,rfl,z,hz,hzy⟩ | hold
  ·obtain⟨c,d,m,h1,h2,h3⟩:=q2.blk _ _ hz
   exact⟨c,d,m,hρ _ _ (qvw_ houts x hx) _ h1,⟨h2.1,fun hq=>h2.2 (.inl hq)⟩,renB_br hρ hzy (fun hf=>qso_ hf2 x hx hf z hz) h3⟩
  ·obtain⟨h0,hne⟩:=qx6_ hold
   obtain⟨c,d,m,h1,h2,h3⟩:=hr.blk _ _ h0
   exact⟨c,d,m,hext _ _ h1,h2,by rw[(keepO b y c d m h0 hne h1).1]; exact h3.mono hext⟩
 ·have cases2:∀ {b y c d m},B1.get b=some y→σ' b=some (c,d,m)→(∃ i z,H1.blocks.get i=some z∧rhoK ins k H.next i=some b∧σ1 i=some (c,d,m))∨(H.blocks.get b=some y∧(∀ x∈ins,H1.low≤x.1→x.2.1 ≠ b)∧σ b=some (c,d,m)):=by
   intro b y c d m hy hs
   rcases qwu_ hB1 b y hy with⟨x,hx,rfl,z,hz,hzy⟩ | hold
   ·obtain⟨c',d',m',h1,h2,h3⟩:=q2.blk _ _ hz
    have e:=hρ _ _ (qvw_ houts x hx) _ h1
    rw[hs] at e
    exact .inl ⟨x.2.1,z,hz,qvw_ houts x hx,by rw[h1]; exact e.symm⟩
   ·obtain⟨h0,hne⟩:=qx6_ hold
    obtain⟨c',d',m',h1,h2,h3⟩:=hr.blk _ _ h0
    have e:=hext _ _ h1
    rw[hs] at e
    exact .inr ⟨h0,hne,by rw[h1]; exact e.symm⟩
  have cross:∀ {i z b b₁ y c d₁ m₁ d₂ m₂},H1.blocks.get i=some z→rhoK ins k H.next i=some b₁→σ1 i=some (c,d₁,m₁)→H.blocks.get b=some y→(∀ x∈ins,H1.low≤x.1→x.2.1 ≠ b)→σ b=some (c,d₂,m₂)→b₁=b:=by
   intro i z b b₁ y c d₁ m₁ d₂ m₂ h1 h2 h3 h4 h5 h6
   have s0:=(keepO b y c d₂ m₂ h4 h5 h6).2 _ _ _ h3
   obtain⟨x,hx,rfl,h7⟩:=hback i _ s0
   obtain⟨z',hz'⟩:=hpres x hx
   have e:=hr.inj _ _ _ _ _ _ _ _ _ hz' h4 h7 h6
   have e2:rhoK ins k H.next x.1=some x.2.1:=by
    show sel (Nat.blt x.1 k) (qrl_ ins x.1) _=_
    have:Nat.blt x.1 k=true:=by simpa [Nat.blt_eq] using q1r_ hcan x hx
    rw[this,sel_true,canOk_find hcan hx]
   rw[h2] at e2
   rw[oI e2,e]
  intro b₁ b₂ x₁ x₂ c d₁ m₁ d₂ m₂ h1 h2 s1 s2
  rcases cases2 h1 s1 with⟨i₁,z₁,a1,a2,a3⟩ | ⟨a1,a2,a3⟩
  ·rcases cases2 h2 s2 with⟨i₂,z₂,c1,c2,c3⟩ | ⟨c1,c2,c3⟩
   ·have e:=q2.inj _ _ _ _ _ _ _ _ _ a1 c1 a3 c3
    subst e
    rw[a2] at c2
    exact oI c2
   ·exact cross a1 a2 a3 c1 c2 c3
  ·rcases cases2 h2 s2 with⟨i₂,z₂,c1,c2,c3⟩ | ⟨c1,c2,c3⟩
   ·exact (cross c1 c2 c3 a1 a2 a3).symm
   ·exact hr.inj _ _ _ _ _ _ _ _ _ a1 c1 a3 c3
 ·intro b t hb
  show b<H.next+(H1.next-k)
  rcases hback' b t hb with⟨h1,_⟩ | ⟨h1,_⟩
  ·omega
  ·exact h1
 ·intro b c d m hb
  rcases hback' b _ hb with⟨_,h1⟩ | ⟨_,_,_,h1⟩
  ·exact Nat.lt_of_lt_of_le (hr.img _ _ _ _ h1) q3.below.size
  ·exact q2.img _ _ _ _ h1
 ·intro b hb
  have hx:=hr.hol b hb
  refine⟨by show b<H.next+(H1.next-k); omega,?_⟩
  rw[hlow' b hx.1]; exact hx.2
 ·intro j c d hj
  obtain⟨h1,h2,h3,h4⟩:=q2.frz j c d hj
  refine⟨h1,h2,fun b t hb e=>?_,h4⟩
  rcases hback' b t hb with⟨_,g⟩ | ⟨_,_,_,g⟩
  ·obtain⟨c',d',m'⟩:=t
   obtain rfl:c'=c:=e
   have hz:=q3.kz c' (hr.img _ _ _ _ g) (.inr fun i d2 m2 hi=>absurd rfl (h3 i _ (q3.ext _ _ hi))) j d hj
   exact (hr.frz j c' d hz).2.2.1 b _ g rfl
  ·exact h3 _ _ g e
 ·intro c hc hq
  obtain⟨h1,h2⟩:=q3.keep c hc (keepQ c hc hq)
  refine⟨h1,fun b d m hs=>?_⟩
  rcases hback' b _ hs with⟨_,h3⟩ | ⟨_,h4,_,h3⟩
  ·exact h3
  ·have:=h0dom _ _ (h2 _ _ _ h3)
   omega
end Go.Proofs.YthlikofobjhcoaaGreat.Ax
namespace Go.Proofs.YthlikofobjhcoaaGreat.Ax
open Go.RowKit
variable [Tabs]
structure AppA where
 src:Option (Nat×List Value)
 old:List Value
 new:List Value
 len:Nat
 known:Bool
inductive Ans where
 | val (v:Value)
 | pur (v:Value)
 | ld (v:Value)
 | sto (c:Tr Value)
 | app (p:AppA)
 | app0
 | str (v:Value)
 | call (c:CallA)
 | eq (v:Value) (H':AH)
 | nil (v:Value)
 | mk (n:Nat) (C:List Value)
 | rng (c:CallA) (slots:List Nat)
 | mlk (v:Value)
 | mup (es:List MapEntry) (k:Nat)
abbrev VO:=Option ((Value×AH)×List Prop)
noncomputable def noC:CallT:=fun _ _ _=>none
def aggV (v:Value):Option (List Value):=
 match v with
 | .agg x=>some x.toList
 | _=>none
noncomputable def ldP (P:Program)(t:TypeId)(p v:Value)(H:AH):Option Prop:=
 oc (qpj_ p) (some (loadG P t p h0=some (v,h0))) fun a=>oc (qd0_ H a.1) none fun x=>oc (aggB P t) none fun g=>sel g (oc (sizeB P t) none fun n=>oc (aggV v) none fun l=>some (rdT x.1 n a.2=some l)) (some (x.1.get a.2=some v))
theorem ldP_ok {P:Program}{t:TypeId}{p v:Value}{H:AH}{q:Prop}(h:ldP P t p v H=some q)(hq:q):opLoad P t p H=some (v,H):=by
 unfold ldP at h
 unfold opLoad
 cases ha:qpj_ p with
 | none=>
  rw[ha,oc_none] at h
  obtain rfl:=oI h
  rw[oc_none]
  cases hgo:qzz_ p with
  | none=>
   unfold loadG at hq ⊢
   rw[hgo,oc_none] at hq ⊢
   exact loadW_any hq
  | some a=>
  have ha:=hgo
  unfold loadG at hq
  rw[ha,oc_some] at hq
  obtain⟨l,hl,hq⟩:=oS hq
  obtain⟨u,hu,hq⟩:=oS hq
  obtain⟨g,hg,hq⟩:=oS hq
  obtain⟨hb,hq⟩:=sel_none hq
  obtain⟨rfl,_⟩:=pI (oI hq)
  simp only[loadG,ha,hl,hu,hg,hb,oc_some,sel_true]
 | some a=>
  rw[ha,oc_some] at h
  obtain⟨x,hx,h⟩:=oS h
  obtain⟨g,hg,h⟩:=oS h
  rw[oc_some]
  unfold loadB2
  rw[qds_ hx,oc_some]
  show oc (oc (some x) none _) none _=_
  rw[oc_some,hg,oc_some]
  rcases qa_ h with⟨rfl,h⟩ | ⟨rfl,h⟩
  ·obtain⟨n,hn,h⟩:=oS h
   obtain⟨l,hl,h⟩:=oS h
   obtain rfl:=oI h
   unfold aggV at hl
   split at hl
   ·obtain rfl:=oI hl
    rw[sel_true,hn,oc_some,hq,oc_some,oc_some]
   ·cases hl
  ·obtain rfl:=oI h
   rw[sel_false,hq,oc_some]
noncomputable def ldO (P:Program)(op:Op)(T:Tr Value)(H:AH)(v:Value):VO:=
 match op with
 | .load t x=>oc (ldP P t (ev T x) v H) none fun q=>some ((v,H),[q])
 | _=>none
noncomputable def stoP (P:Program)(t:TypeId)(p v:Value)(H:AH)(c:Tr Value):VO:=
 oc (qpj_ p) none fun a=>oc (sizeB P t) none fun n=>sel (Nat.beq (qxm_ v).length n && !isAny v) (oc (qd0_ H a.1) none fun y=>sel (qbn_ (qxm_ v)) (some ((undef,H.store a.1 c y.2),[∃ old,rdT y.1 (qxm_ v).length a.2=some old,layL (qxm_ v) a.2 y.1=c])) none) none
theorem stoP_ok {P:Program}{t:TypeId}{p v:Value}{H:AH}{c:Tr Value}{r:Value×AH}{ps:List Prop}(h:stoP P t p v H c=some (r,ps))(hp:AllP ps):opStore P t p v H=some r:=by
 obtain⟨a,ha,h⟩:=oS h
 obtain⟨n,hn,h⟩:=oS h
 obtain⟨hb,h⟩:=sel_none h
 obtain⟨y,hy,h⟩:=oS h
 obtain⟨hc,h⟩:=sel_none h
 obtain⟨rfl,rfl⟩:=pI (oI h)
 obtain⟨⟨old,h1⟩,h2,_⟩:=hp
 unfold opStore
 rw[ha,oc_some,hn,oc_some,hb,sel_true]
 unfold storeB2
 rw[qds_ hy,oc_some]
 show oc (oc none (oc (some y) none _) _) none _=_
 rw[oc_none,oc_some]
 unfold storeC
 rw[h1,oc_some,hc,sel_true,oc_some,h2]
noncomputable def stoO (P:Program)(op:Op)(T:Tr Value)(H:AH)(c:Tr Value):VO:=
 match op with
 | .store t x y=>stoP P t (ev T x) (ev T y) H c
 | _=>none
noncomputable def srcP (P:Program)(H:AH)(sz:Nat)(x:Value)(a:Option (Nat×List Value)):Option ((Nat×List Value)×List Prop):=
 oc a (oc (srcB P H sz x) none fun r=>some (r,[])) fun r=>match x with
  | .slice (some ⟨b,o,none⟩) n _=>oc (qd0_ H b) none fun y=>some (r,[r.1=n,rdT y.1 (Nat.mul n sz) o=some r.2])
  | .slice (some ⟨j,o,some 1⟩) n _=>some (r,[r.1=n,(n=0∧r.2=[])∨∃ y,Tabs.win j=some y∧rdL y.2.2 (Nat.mul n sz) o=some r.2])
  | .string bs=>sel (Nat.beq sz 1) (some (r,[r=(bs.size,bs.data.toList.map fun b=>Value.int .u8 b.toNat)])) none
  | _=>none
theorem srcP_ok {P:Program}{H:AH}{sz:Nat}{x:Value}{a:Option (Nat×List Value)}{r:Nat×List Value}{ps:List Prop}(h:srcP P H sz x a=some (r,ps))(hp:AllP ps):srcB P H sz x=some r:=by
 unfold srcP at h
 cases a with
 | none=>
  rw[oc_none] at h
  obtain⟨q,hq,h⟩:=oS h
  obtain⟨rfl,rfl⟩:=pI (oI h)
  exact hq
 | some q=>
  rw[oc_some] at h
  split at h
  ·obtain⟨y,hy,h⟩:=oS h
   obtain⟨rfl,rfl⟩:=pI (oI h)
   obtain⟨p1,p2,_⟩:=hp
   obtain⟨a,b⟩:=q
   simp only at p1 p2
   subst p1
   unfold srcB
   simp only[hy,oc_some,p2]
  ·obtain⟨rfl,rfl⟩:=pI (oI h)
   obtain⟨p1,p2,_⟩:=hp
   obtain⟨a,b⟩:=q
   simp only at p1 p2
   subst p1
   show sel (Nat.beq a 0) _ _=_
   rcases p2 with⟨rfl,rfl⟩ | ⟨y,hy,p2⟩
   ·rfl
   ·simp only[hy,oc_some,p2]
    cases a with
    | zero=>
     obtain rfl:=List.length_eq_zero_iff.1 ((q0f_ p2).1.trans (Nat.zero_mul _))
     rfl
    | succ n=>rfl
  ·obtain⟨hz,h⟩:=sel_none h
   obtain⟨rfl,rfl⟩:=pI (oI h)
   obtain⟨p1,_⟩:=hp
   show sel (Nat.beq sz 1) _ none=_
   rw[hz,sel_true,p1]
  ·cases h
noncomputable def appK (H:AH)(e bs sz:Nat)(r:Nat×List Value)(y:Tr Value×TypeId)(a:Nat×Nat×Nat×Nat)(p:AppA):VO:=
 sel p.known
  (some ((.slice (some ⟨H.next,0,none⟩) p.len (Nat.add big sz),H.push (.cells (layT p.new) e)),[0<r.1,a.2.2.2<big,a.2.2.2<Nat.add a.2.2.1 r.1,rdT y.1 (Nat.mul a.2.2.1 sz) a.2.1=some p.old,fits (Nat.add a.2.2.1 r.1) bs=true,p.old++r.2=p.new,Nat.add a.2.2.1 r.1=p.len]))
  (sel (Nat.beq a.2.2.2 (Nat.add big sz)&&Nat.beq y.2 e) (some ((.slice (some ⟨H.next,0,none⟩) p.len (Nat.add big sz),H.grow a.1 p.new e),[0<r.1,rdT y.1 (Nat.mul a.2.2.1 sz) a.2.1=some p.old,fits (Nat.add a.2.2.1 r.1) bs=true,qbn_ r.2=true,qbn_ p.old=true,p.old++r.2=p.new,Nat.add a.2.2.1 r.1=p.len])) none)
noncomputable def appN (H:AH)(e bs sz:Nat)(r:Nat×List Value)(p:AppA):VO:=
 some ((.slice (some ⟨H.next,0,none⟩) p.len (Nat.add big sz),H.push (.cells (layT p.new) e)),[0<r.1,fits r.1 bs=true,r.2=p.new,r.1=p.len])
noncomputable def appS (H:AH)(e bs sz:Nat)(r:Nat×List Value)(s:Value)(p:AppA):VO:=
 match s with
 | .slice none 0 0=>appN H e bs sz r p
 | .slice (some ⟨b,o,none⟩) n k=>oc (qd0_ H b) none fun y=>appK H e bs sz r y (b,o,n,k) p
 | _=>none
noncomputable def appP (P:Program)(t u:TypeId)(s x:Value)(H:AH)(p:AppA):VO:=
 oc (q1g_ s x) (oc (elemB P t) none fun e=>oc (P.underlying u) none fun d=>oc (zeroB P e) none fun z=>oc (sizeB P e) none fun sz=>oc (qxn_ P e) none fun bs=>
  sel (notInt d&&Nat.beq z.length sz&&Nat.blt sz big) (oc (srcP P H sz x p.src) none fun r=>oc (appS H e bs sz r.1 s p) none fun q=>some (q.1,r.2++q.2)) none) fun _=>none
theorem blt_no {n k:Nat}(h:¬ n<k):Nat.blt n k=false:=by
 cases hc:Nat.blt n k with
 | false=>rfl
 | true=>exact absurd (qfr_ hc) h
theorem ble_no {n k:Nat}(h:¬ n≤k):Nat.ble n k=false:=by
 cases hc:Nat.ble n k with
 | false=>rfl
 | true=>exact absurd (qd1_ hc) h
theorem beq_no {n k:Nat}(h:n ≠ k):Nat.beq n k=false:=by
 cases hc:Nat.beq n k with
 | false=>rfl
 | true=>exact absurd (nB hc) h
theorem blt_yes {n k:Nat}(h:n<k):Nat.blt n k=true:=by simpa [Nat.blt_eq] using h
theorem appS_ok {H:AH}{e bs sz:Nat}{q:Nat×List Value}{s:Value}{p:AppA}{r:Value×AH}{ps:List Prop}(hr:appS H e bs sz q s p=some (r,ps))(hp:AllP ps)(hszb:sz<big):q1f_ H sz e bs q s=some r:=by
 have hadd:∀ a b,Nat.add a b=a+b:=fun _ _=>rfl
 unfold appS at hr
 split at hr
 ·obtain⟨rfl,rfl⟩:=pI (oI hr)
  obtain⟨p1,p2,p3,p4,_⟩:=hp
  unfold q1f_
  rw[show roomL sz q (.slice none 0 0)=none from rfl,oc_none]
  show appNil H sz e bs q 0 0=_
  unfold appNil
  rw[show (Nat.beq 0 0&&Nat.beq 0 0)=true from rfl,sel_true,beq_no (show q.1 ≠ 0 by omega),sel_false,p2,sel_true,p3,p4]
 ·rename_i b o n k
  obtain⟨y,hy,hr⟩:=oS hr
  unfold appK at hr
  simp only at hr
  rcases qa_ hr with⟨_,hr⟩ | ⟨_,hr⟩
  ·obtain⟨rfl,rfl⟩:=pI (oI hr)
   obtain⟨p1,p2,p3,p4,p5,p6,p7,_⟩:=hp
   rw[hadd] at p3
   have hdiv:Nat.div k big=0:=Nat.div_eq_of_lt p2
   have hroom:roomL sz q (.slice (some ⟨b,o,none⟩) n k)=none:=by
    show oc (capL n k) none _=none
    unfold capL
    rw[hdiv]; rfl
   unfold q1f_
   rw[hroom,oc_none]
   have hw:weakL (.slice (some ⟨b,o,none⟩) n k)=.slice (some ⟨b,o,none⟩) n k:=by
    show sel (Nat.ble (Nat.div k big) 1) _ _=_
    rw[hdiv]; rfl
   rw[hw]
   show sel (Nat.beq q.1 0) _ (oc (qd0_ H b) none fun y=>qw5_ H sz e bs q b o n k y)=_
   rw[beq_no (show q.1 ≠ 0 by omega),sel_false,hy,oc_some]
   unfold qw5_
   rw[p4,oc_some,blt_yes p2,sel_true,ble_no (show ¬ Nat.add n q.1≤k by rw[hadd]; omega),sel_false,p5,sel_true,p6,p7]
  ·obtain⟨hk,hr⟩:=sel_none hr
   obtain⟨rfl,rfl⟩:=pI (oI hr)
   obtain⟨p1,p2,p3,p4,p5,p6,p7,_⟩:=hp
   simp only[bA] at hk
   obtain rfl:=nB hk.1
   have hdiv:Nat.div (Nat.add big sz) big=1:=by
    show (big+sz) / big=1
    rw[Nat.add_div_left _ (by decide),Nat.div_eq_of_lt hszb]
   have hroom:roomL sz q (.slice (some ⟨b,o,none⟩) n (Nat.add big sz))=none:=by
    show oc (capL n (Nat.add big sz)) none _=none
    unfold capL
    rw[hdiv,show Nat.beq 1 0=false from rfl,sel_false,show Nat.beq 1 1=true from rfl,sel_true]
    cases hn:Nat.blt 0 n with
    | false=>rfl
    | true=>
     rw[sel_true,oc_some]
     show sel (Nat.ble (Nat.add n q.1) n&&Nat.blt 0 q.1) _ none=none
     rw[ble_no (show ¬ Nat.add n q.1≤n by rw[hadd]; omega)]; rfl
   unfold q1f_
   rw[hroom,oc_none]
   have hw:weakL (.slice (some ⟨b,o,none⟩) n (Nat.add big sz))=.slice (some ⟨b,o,none⟩) n (Nat.add big sz):=by
    show sel (Nat.ble (Nat.div (Nat.add big sz) big) 1) _ _=_
    rw[hdiv]; rfl
   rw[hw]
   show sel (Nat.beq q.1 0) _ (oc (qd0_ H b) none fun y=>qw5_ H sz e bs q b o n (Nat.add big sz) y)=_
   rw[beq_no (show q.1 ≠ 0 by omega),sel_false,hy,oc_some]
   unfold qw5_
   rw[p2,oc_some,blt_no (show ¬ Nat.add big sz<big by rw[hadd]; omega),sel_false,hk.1,hk.2,p3,p4,p5]
   show some _=some _
   rw[p6,p7]
 ·cases hr
theorem appP_ok {P:Program}{t u:TypeId}{s x:Value}{H:AH}{p:AppA}{r:Value×AH}{ps:List Prop}(h:appP P t u s x H p=some (r,ps))(hp:AllP ps):qk6_ P t u s x H=some r:=by
 unfold appP at h
 cases hzc:q1g_ s x with
 | some n=>rw[hzc] at h; cases h
 | none=>
 rw[hzc,oc_none] at h
 obtain⟨e,he,h⟩:=oS h
 obtain⟨d,hd,h⟩:=oS h
 obtain⟨z,hz,h⟩:=oS h
 obtain⟨sz,hsz,h⟩:=oS h
 obtain⟨bs,hbs,h⟩:=oS h
 obtain⟨hb,h⟩:=sel_none h
 obtain⟨⟨q,qs⟩,hq,h⟩:=oS h
 obtain⟨⟨r',rs⟩,hr,h⟩:=oS h
 obtain⟨rfl,rfl⟩:=pI (oI h)
 obtain⟨hp1,hp⟩:=AllP.append hp
 have hsrc:=srcP_ok hq hp1
 have hb':=hb
 simp only[bA] at hb'
 have hszb:sz<big:=qfr_ hb'.2
 unfold qk6_
 rw[hzc,oc_none]
 unfold qvl_
 rw[he,oc_some,hd,oc_some,hz,oc_some,hsz,oc_some,hbs,oc_some,hb,sel_true,hsrc,oc_some]
 exact appS_ok hr hp hszb
noncomputable def app0Z (P:Program)(H:AH)(sz:Nat)(x:Value):Option (List Prop):=
 oc (srcP P H sz x (some (0,[]))) (some [srcB P H sz x=some (0,[])]) fun r=>some r.2
theorem app0Z_ok {P:Program}{H:AH}{sz:Nat}{x:Value}{ps:List Prop}(h:app0Z P H sz x=some ps)(hp:AllP ps):srcB P H sz x=some (0,[]):=by
 unfold app0Z at h
 cases hs:srcP P H sz x (some (0,[])) with
 | none=>
  rw[hs,oc_none] at h
  obtain rfl:=oI h
  exact hp.1
 | some r=>
  rw[hs,oc_some] at h
  obtain rfl:=oI h
  have hq:r.1=(0,[]):=by
   unfold srcP at hs
   rw[oc_some] at hs
   split at hs
   ·obtain⟨y,_,hs⟩:=oS hs
    obtain rfl:=oI hs; rfl
   ·obtain rfl:=oI hs; rfl
   ·obtain⟨_,hs⟩:=sel_none hs
    obtain rfl:=oI hs; rfl
   ·cases hs
  obtain⟨q,qs⟩:=r
  obtain rfl:q=(0,[]):=hq
  exact srcP_ok hs hp
noncomputable def app0P (P:Program)(t u:TypeId)(s x:Value)(H:AH):VO:=
 oc (q1g_ s x) (oc (elemB P t) none fun e=>oc (P.underlying u) none fun d=>oc (zeroB P e) none fun z=>oc (sizeB P e) none fun sz=>oc (qxn_ P e) none fun bs=>
  sel (notInt d&&Nat.beq z.length sz&&Nat.blt sz big) (oc (app0Z P H sz x) none fun ps=>some ((s,H),ps ++ [∀ H':AH,q1f_ H' sz e bs (0,[]) s=some (s,H')])) none) fun _=>none
theorem app0P_ok {P:Program}{t u:TypeId}{s x:Value}{H:AH}{r:Value×AH}{ps:List Prop}(h:app0P P t u s x H=some (r,ps))(hp:AllP ps):qk6_ P t u s x H=some r:=by
 unfold app0P at h
 cases hzc:q1g_ s x with
 | some n=>rw[hzc] at h; cases h
 | none=>
 rw[hzc,oc_none] at h
 obtain⟨e,he,h⟩:=oS h
 obtain⟨d,hd,h⟩:=oS h
 obtain⟨z,hz,h⟩:=oS h
 obtain⟨sz,hsz,h⟩:=oS h
 obtain⟨bs,hbs,h⟩:=oS h
 obtain⟨hb,h⟩:=sel_none h
 obtain⟨qs,hqs,h⟩:=oS h
 obtain⟨rfl,rfl⟩:=pI (oI h)
 obtain⟨h1,h2⟩:=AllP.append hp
 have hsrc:=app0Z_ok hqs h1
 unfold qk6_
 rw[hzc,oc_none]
 unfold qvl_
 rw[he,oc_some,hd,oc_some,hz,oc_some,hsz,oc_some,hbs,oc_some,hb,sel_true,hsrc,oc_some]
 exact h2.1 H
noncomputable def app0O (P:Program)(op:Op)(T:Tr Value)(H:AH):VO:=
 match op with
 | .call c=>(match c.callee,c.argTypes.toList,c.args.toList with
  | .builtin .append,[t,u],[s,x]=>app0P P t u (ev T s) (ev T x) H
  | _,_,_=>none)
 | _=>none
noncomputable def strO (P:Program)(op:Op)(T:Tr Value)(H:AH)(v:Value):VO:=
 match op with
 | .convert s d x=>oc (qw7_ P s d (ev T x) H) (sel (qw6_ P s d && !(flat (ev T x))) (oc (zerOf H (ev T x)) (oc (qjp_ (ev T x)) none fun a=>oc (qd0_ H a.1) none fun y=>some ((v,H),[∃ r,(oc (rdT y.1 a.2.2.1 a.2.1) none fun l=>bytesL l)=some r∧v=.string ⟨⟨r⟩⟩])) fun _=>none) none) fun _=>none
 | _=>none
theorem strO_ok {P:Program}{op:Op}{ty:TypeId}{T:Tr Value}{H:AH}{v:Value}{r:Value×AH}{ps:List Prop}(h:strO P op T H v=some (r,ps))(hp:AllP ps):qgd_ P noC op ty T H=some r:=by
 unfold strO at h
 split at h
 ·rename_i s d x
  cases hc:qw7_ P s d (ev T x) H with
  | some u=>rw[hc] at h; cases h
  | none=>
   rw[hc,oc_none] at h
   obtain⟨hb,h⟩:=sel_none h
   cases hz:zerOf H (ev T x) with
   | some u=>rw[hz] at h; cases h
   | none=>
    rw[hz,oc_none] at h
    obtain⟨a,ha,h⟩:=oS h
    obtain⟨y,hy,h⟩:=oS h
    obtain⟨rfl,rfl⟩:=pI (oI h)
    obtain⟨⟨r,h1,rfl⟩,-⟩:=hp
    obtain⟨l,h1,h2⟩:=oS h1
    show opConv P s d (ev T x) H=_
    unfold opConv
    have hb':=hb
    simp only[bA] at hb'
    rw[hc,oc_none,hb,sel_true,hz,oc_none]
    unfold opBytes
    rw[hb'.1,sel_true,ha,oc_some,hy,oc_some,h1,oc_some,h2,oc_some]
 ·cases h
theorem rdT_zero {t:Tr Value}{n sz o:Nat}(hn:n=0):rdT t (Nat.mul n sz) o=some []:=by
 subst hn
 show rdT t (0*sz) o=some []
 rw[Nat.zero_mul]; rfl
noncomputable def appO (P:Program)(op:Op)(T:Tr Value)(H:AH)(p:AppA):VO:=
 match op with
 | .call c=>(match c.callee,c.argTypes.toList,c.args.toList with
  | .builtin .append,[t,u],[s,x]=>appP P t u (ev T s) (ev T x) H p
  | _,_,_=>none)
 | _=>none
noncomputable def isFuncN (f:Fn):Option Nat:=
 match f with
 | .func g=>some g
 | _=>none
noncomputable def callA1 (P:Program)(op:Op)(T:Tr Value)(H:AH)(a:CallA):VO:=
 match op with
 | .call c=>(match c.callee with
  | .value f=>oc (fnVal (ev T f) (evL T c.args.toList)) none fun p=>oc (renFn (qud_ a.ins) p.1) none fun g=>oc (frameR a p.2 H) none fun r=>oc (extF P p.1)
    (some (r.2,Gv P g r.1.1 ⟨r.1.2,a.k,a.k⟩ a.v a.H1::(qwt_ H.blocks a.ins++qwt_ a.H1.blocks a.outs))) fun _=>none
  | _=>none)
 | _=>none
noncomputable def nilP (P:Program)(op:BinOp)(t:TypeId)(x y v:Value)(H:AH):VO:=
 match x,y with
 | .slice (some ⟨_,_,some 1⟩) n _,.slice none _ _=>oc (P.underlying t) none fun d=>sel (eqKind d x) (some ((v,H),[∃ m,n=m+1,cmpOp op false=some v])) none
 | _,_=>none
theorem nilP_ok {P:Program}{op:BinOp}{t:TypeId}{ox oy:Operand}{x y v:Value}{H:AH}{r:Value×AH}{ps:List Prop}(h:nilP P op t x y v H=some (r,ps))(hp:AllP ps):opBin P op t ox oy x y H=some r:=by
 unfold nilP at h
 split at h
 ·obtain⟨d,hd,h⟩:=oS h
  obtain⟨hk,h⟩:=sel_none h
  obtain⟨rfl,rfl⟩:=pI (oI h)
  obtain⟨⟨m,rfl⟩,p2,_⟩:=hp
  show opRest P op t ox oy _ _ H=_
  unfold opRest opNilEq
  simp only[qyc_,nilEq,oc_none,oc_some,hd,hk,sel_true,p2]
 ·cases h
noncomputable def nilO (P:Program)(op:Op)(T:Tr Value)(H:AH)(v:Value):VO:=
 match op with
 | .binOp o t x y _=>nilP P o t (ev T x) (ev T y) v H
 | _=>none
noncomputable def mkO (P:Program)(op:Op)(T:Tr Value)(H:AH)(n:Nat)(C:List Value):VO:=
 match op with
 | .makeSlice t l c=>sel (mkU l c) (oc (elemB P t) none fun e=>oc (zeroB P e) none fun z=>oc (sizeB P e) none fun s=>oc (qxn_ P e) none fun bs=>
  sel (Nat.beq z.length s&&Nat.blt s 4096) (some ((.slice (some ⟨H.next,0,none⟩) 0 (Nat.add big s),H.push (.cells .nil e)),[natOf (ev T c)=some n,fits n bs=true])) none) <| oc (elemB P t) none fun e=>oc (zeroB P e) none fun z=>oc (sizeB P e) none fun s=>oc (qxn_ P e) none fun bs=>
  sel (Nat.beq z.length s) (some ((.slice (some ⟨H.next,0,none⟩) n n,H.push (.cells (layT C) e)),[natOf (ev T l)=some n,natOf (ev T c)=some n,fits n bs=true,isZ8 (nilzL z)=false,reps (nilzL z) n=C])) none
 | _=>none
theorem mkO_ok {P:Program}{op:Op}{ty:TypeId}{T:Tr Value}{H:AH}{n:Nat}{C:List Value}{r:Value×AH}{ps:List Prop}(h:mkO P op T H n C=some (r,ps))(hp:AllP ps):qgd_ P noC op ty T H=some r:=by
 unfold mkO at h
 split at h
 ·rename_i t l c
  show sel (mkU l c) (q0g_ P t (ev T c) H) (qna_ P t (ev T l) (ev T c) H)=_
  rcases qa_ h with⟨hm,h⟩ | ⟨hm,h⟩
  ·obtain⟨e,he,h⟩:=oS h
   obtain⟨z,hz,h⟩:=oS h
   obtain⟨s,hs,h⟩:=oS h
   obtain⟨bs,hbs,h⟩:=oS h
   obtain⟨hb,h⟩:=sel_none h
   obtain⟨rfl,rfl⟩:=pI (oI h)
   obtain⟨p1,p2,_⟩:=hp
   simp only[bA] at hb
   rw[hm]
   show q0g_ P t (ev T c) H=_
   unfold q0g_
   rw[p1,oc_some,he,oc_some,hz,oc_some,hs,oc_some,hbs,oc_some,p2,hb.1,hb.2]
   rfl
  rw[hm]
  obtain⟨e,he,h⟩:=oS h
  obtain⟨z,hz,h⟩:=oS h
  obtain⟨s,hs,h⟩:=oS h
  obtain⟨bs,hbs,h⟩:=oS h
  obtain⟨hb,h⟩:=sel_none h
  obtain⟨rfl,rfl⟩:=pI (oI h)
  obtain⟨p1,p2,p3,p4,rfl,_⟩:=hp
  show qna_ P t (ev T l) (ev T c) H=_
  unfold qna_
  rw[p1,oc_some,p2,oc_some,he,oc_some,hz,oc_some,hs,oc_some,hbs,oc_some,p3,hb,Nat.ble_eq_true_of_le (Nat.le_refl n)]
  show some _=some _
  unfold zerB
  rw[p4,Bool.and_false,sel_false]
 ·cases h
theorem q0z_ {d:TypeDesc}(h:qyn_ d=true):notNow d=false:=by
 cases d<;>first | rfl | cases h
noncomputable def mlkO (P:Program)(op:Op)(T:Tr Value)(H:AH)(v:Value):VO:=
 match op with
 | .lookup t x k ok=>oc (mapB P t) none fun q=>oc (P.underlying q.1) none fun d=>sel (qyn_ d&&flat (ev T k)) (oc (qor_ (ev T x)) none fun b=>oc (mapEs H b) none fun es=>
   some ((v,H),[∀ H:AH,oc (findU d (ev T k) es.1 0) none (fun r=>lookRes P q.2 ok H r)=some (v,H)])) none
 | _=>none
theorem mlkO_ok {P:Program}{op:Op}{ty:TypeId}{T:Tr Value}{H:AH}{v:Value}{r:Value×AH}{ps:List Prop}(h:mlkO P op T H v=some (r,ps))(hp:AllP ps):qgd_ P noC op ty T H=some r:=by
 unfold mlkO at h
 split at h
 ·rename_i t x k ok
  obtain⟨q,hq,h⟩:=oS h
  obtain⟨d,hd,h⟩:=oS h
  obtain⟨hb,h⟩:=sel_none h
  obtain⟨b,hb',h⟩:=oS h
  obtain⟨es,hes,h⟩:=oS h
  obtain⟨rfl,rfl⟩:=pI (oI h)
  show qx1_ P t (ev T x) (ev T k) ok H=_
  have hb2:=hb
  simp only[bA] at hb2
  unfold qx1_
  rw[hq,oc_some,hd,oc_some,q0z_ hb2.1,Bool.false_and,sel_false]
  unfold opLookup
  rw[hq,oc_some,hd,oc_some,hb,sel_true,hb',oc_some,hes,oc_some]
  exact hp.1 H
 ·cases h
noncomputable def mupO (P:Program)(op:Op)(T:Tr Value)(H:AH)(es':List MapEntry)(c:Nat):VO:=
 match op with
 | .mapUpdate t x k v=>oc (mapB P t) none fun q=>oc (P.underlying q.1) none fun d=>sel (qyn_ d&&flat (ev T k)) (oc (qor_ (ev T x)) none fun b=>oc (mapEs H b) none fun es=>
   some ((undef,H.setB b (.map es' c)),[oc (findU d (ev T k) es.1 0) none (fun r=>some (updEs es (ev T k) (ev T v) r))=some (.map es' c)])) none
 | _=>none
theorem mupO_ok {P:Program}{op:Op}{ty:TypeId}{T:Tr Value}{H:AH}{es':List MapEntry}{c:Nat}{r:Value×AH}{ps:List Prop}(h:mupO P op T H es' c=some (r,ps))(hp:AllP ps):qgd_ P noC op ty T H=some r:=by
 unfold mupO at h
 split at h
 ·rename_i t x k v
  obtain⟨q,hq,h⟩:=oS h
  obtain⟨d,hd,h⟩:=oS h
  obtain⟨hb,h⟩:=sel_none h
  obtain⟨b,hb',h⟩:=oS h
  obtain⟨es,hes,h⟩:=oS h
  obtain⟨rfl,rfl⟩:=pI (oI h)
  show qos_ P t (ev T x) (ev T k) (ev T v) H=_
  have hb2:=hb
  simp only[bA] at hb2
  obtain⟨u,hu,hp1⟩:=oS hp.1
  unfold qos_
  rw[hq,oc_some,hd,oc_some,q0z_ hb2.1,Bool.false_and,sel_false]
  unfold opUpdate
  rw[hq,oc_some,hd,oc_some,hb,sel_true,hb',oc_some,hes,oc_some,hu,oc_some,oI hp1]
 ·cases h
theorem qgl_ {x:Int}{k:IntKind}(h:0≤x):natOf (.int k x)=some x.toNat:=by
 obtain⟨n,rfl⟩:=Int.eq_ofNat_of_zero_le h
 rfl
theorem reps_rows {α:Type}(f:α→List Value)(d:α)(z:List Value)(hz:f d=z):∀ n,reps z n=(List.replicate n d).flatMap f
 | 0=>rfl
 | n+1=>by
  rw[List.replicate_succ,List.flatMap_cons,←reps_rows f d z hz n,hz]
  rfl
noncomputable def evA (P:Program)(a:Option Ans)(op:Op)(ty:TypeId)(T:Tr Value)(H:AH):VO:=
 oc a (oc (qgd_ P noC op ty T H) none fun r=>some (r,[])) fun a=>match a with
  | .val v=>oc (qgd_ P noC op ty T H) none fun r=>some ((v,r.2),[r.1=v])
  | .pur v=>sel (!isChg op && !isFlt op && !isMem P op) (some ((v,H),[qgd_ P noC op ty T h0=some (v,h0)])) none
  | .ld v=>ldO P op T H v
  | .sto c=>stoO P op T H c
  | .app p=>appO P op T H p
  | .app0=>app0O P op T H
  | .str v=>strO P op T H v
  | .call c=>callA1 P op T H c
  | .eq v H'=>some ((v,H'),[qgd_ P noC op ty T H=some (v,H')])
  | .nil v=>nilO P op T H v
  | .mk n C=>mkO P op T H n C
  | .rng _ _=>none
  | .mlk v=>mlkO P op T H v
  | .mup es k=>mupO P op T H es k
theorem evA_ok {P:Program}{a:Option Ans}{op:Op}{ty:TypeId}{T:Tr Value}{H:AH}{r:Value×AH}{ps:List Prop}(h:evA P a op ty T H=some (r,ps))(hp:AllP ps):∃ call,CallU P call∧qgd_ P call op ty T H=some r:=by
 have hno:CallU P noC:=noneC_ok P
 cases a with
 | none=>
  obtain⟨q,hq,h⟩:=oS (o:=qgd_ P noC op ty T H) h
  obtain⟨rfl,rfl⟩:=pI (oI h)
  exact⟨noC,hno,hq⟩
 | some a=>
  cases a with
  | val v=>
   obtain⟨q,hq,h⟩:=oS (o:=qgd_ P noC op ty T H) h
   obtain⟨rfl,rfl⟩:=pI (oI h)
   refine⟨noC,hno,?_⟩
   rw[hq,←hp.1]
  | pur v=>
   obtain⟨hb,h⟩:=sel_none (b:=!isChg op && !isFlt op && !isMem P op) h
   obtain⟨rfl,rfl⟩:=pI (oI h)
   simp only[bA,Bool.not_eq_true'] at hb
   exact⟨noC,hno,pure_any hb.1.1 hb.1.2 hb.2 hp.1 H⟩
  | ld v=>
   replace h:ldO P op T H v=some (r,ps):=h
   unfold ldO at h
   split at h
   ·obtain⟨q,hq,h⟩:=oS h
    obtain⟨rfl,rfl⟩:=pI (oI h)
    exact⟨noC,hno,ldP_ok hq hp.1⟩
   ·cases h
  | sto c=>
   replace h:stoO P op T H c=some (r,ps):=h
   unfold stoO at h
   split at h
   ·exact⟨noC,hno,stoP_ok h hp⟩
   ·cases h
  | app p=>
   replace h:appO P op T H p=some (r,ps):=h
   unfold appO at h
   split at h
   ·rename_i c
    split at h
    ·rename_i t u s x h1 h2 h3
     refine⟨noC,hno,?_⟩
     show qse_ P noC c ty T H=some r
     unfold qse_
     rw[h1]
     show qot_ P .append c.argTypes.toList ty (evL T c.args.toList) H=some r
     rw[h2,h3]
     exact appP_ok h hp
    ·cases h
   ·cases h
  | app0=>
   replace h:app0O P op T H=some (r,ps):=h
   unfold app0O at h
   split at h
   ·rename_i c
    split at h
    ·rename_i t u s x h1 h2 h3
     refine⟨noC,hno,?_⟩
     show qse_ P noC c ty T H=some r
     unfold qse_
     rw[h1]
     show qot_ P .append c.argTypes.toList ty (evL T c.args.toList) H=some r
     rw[h2,h3]
     exact app0P_ok h hp
    ·cases h
   ·cases h
  | str v=>exact⟨noC,hno,strO_ok h hp⟩
  | call ca=>
   replace h:callA1 P op T H ca=some (r,ps):=h
   unfold callA1 at h
   split at h
   ·rename_i c
    split at h
    ·rename_i f hf
     obtain⟨p,hp1,h⟩:=oS h
     obtain⟨g,hg,h⟩:=oS h
     obtain⟨q,hq,h⟩:=oS h
     cases hex:extF P p.1 with
     | some _=>rw[hex,oc_some] at h; cases h
     | none=>
     rw[hex,oc_none] at h
     obtain⟨rfl,rfl⟩:=pI (oI h)
     obtain⟨⟨a0,B0⟩,⟨v,H'⟩⟩:=q
     obtain⟨p1,p2⟩:=hp
     obtain⟨p2,p3⟩:=AllP.append p2
     refine⟨oneC p.1 p.2 H (v,H'),oneC_ok (frame_ok hq hg p1 p2 p3),?_⟩
     show qse_ P _ c ty T H=some (v,H')
     unfold qse_
     rw[hf]
     show oc (qvn_ (ev T f)) (oc (fnVal (ev T f) (evL T c.args.toList)) none (fun p=>oc (extF P p.1) (oneC _ _ H (v,H') p.1 p.2 H) _)) _=_
     rw[fnVal_meth hp1,oc_none,hp1,oc_some,hex,oc_none]
     exact oneC_hit _ _ _ _
    ·cases h
   ·cases h
  | eq v H'=>
   obtain⟨rfl,rfl⟩:=pI (oI h)
   exact⟨noC,hno,hp.1⟩
  | nil v=>
   replace h:nilO P op T H v=some (r,ps):=h
   unfold nilO at h
   split at h
   ·exact⟨noC,hno,nilP_ok h hp⟩
   ·cases h
  | mk n C=>exact⟨noC,hno,mkO_ok h hp⟩
  | rng _ _=>cases h
  | mlk v=>exact⟨noC,hno,mlkO_ok h hp⟩
  | mup es k=>exact⟨noC,hno,mupO_ok h hp⟩
end Go.Proofs.YthlikofobjhcoaaGreat.Ax
namespace Go.Proofs.YthlikofobjhcoaaGreat.Ax
open Go.RowKit
variable [Tabs]
noncomputable def addP {α:Type}(ps:List Prop)(x:Option (α×List Prop)):Option (α×List Prop):=oc x none fun y=>some (y.1,ps++y.2)
theorem que_ {α:Type}{ps:List Prop}{x:Option (α×List Prop)}{y:α}{qs:List Prop}(h:addP ps x=some (y,qs)):∃ rs,x=some (y,rs)∧qs=ps++rs:=by
 obtain⟨⟨a,b⟩,h1,h⟩:=oS h
 obtain⟨rfl,rfl⟩:=pI (oI h)
 exact⟨b,h1,rfl⟩
abbrev EvT:=Nat→Op→TypeId→Tr Value→AH→VO
def EvOK (P:Program)(E:EvT):Prop:=∀ j op ty T H r ps,E j op ty T H=some (r,ps)→AllP ps→∃ call,CallU P call∧qgd_ P call op ty T H=some r
noncomputable def qu7_ (E:EvT)(all l:List Oper):Nat→Tr Value→AH→Option ((Tr Value×AH)×List Prop):=
 @List.rec Oper (fun _=>Nat→Tr Value→AH→Option ((Tr Value×AH)×List Prop)) (fun _ T H=>some ((T,H),[]))
  (fun o _ ih j T H=>sel (qnk_ all o T) (sel (qf2_ all o T) (sel (isChg o.op||isFlt o.op) (oc (E j o.op o.type T H.fresh) none fun r=>addP r.2 (ih (Nat.succ j) (putO T o.dst r.1.1) (r.1.2.back H.low))) (oc (E j o.op o.type T H) none fun r=>addP r.2 (ih (Nat.succ j) (putO T o.dst r.1.1) H))) (ih (Nat.succ j) (putO T o.dst undef) H)) none) l
theorem qxc_ (E:EvT)(all:List Oper)(o:Oper)(l:List Oper)(j:Nat)(T:Tr Value)(H:AH) :
  qu7_ E all (o::l) j T H=sel (qnk_ all o T) (sel (qf2_ all o T) (sel (isChg o.op||isFlt o.op) (oc (E j o.op o.type T H.fresh) none fun r=>addP r.2 (qu7_ E all l (j+1) (putO T o.dst r.1.1) (r.1.2.back H.low))) (oc (E j o.op o.type T H) none fun r=>addP r.2 (qu7_ E all l (j+1) (putO T o.dst r.1.1) H))) (qu7_ E all l (j+1) (putO T o.dst undef) H)) none:=rfl
theorem qnn_ {E:EvT}{all:List Oper}:∀ {l:List Oper} {j:Nat} {T T':Tr Value} {H H':AH} {ps:List Prop},qu7_ E all l j T H=some ((T',H'),ps)→H'.low≤H.low
 | [],j,T,T',H,H',ps,h=>by
  obtain⟨h1,_⟩:=pI (oI h)
  obtain⟨rfl,rfl⟩:=pI h1; exact Nat.le_refl _
 | o::l,j,T,T',H,H',ps,h=>by
  rw[qxc_] at h
  obtain⟨_,h⟩:=sel_none h
  rcases qa_ h with⟨_,h⟩ | ⟨_,h⟩
  ·rcases qa_ h with⟨_,h⟩ | ⟨_,h⟩
   ·obtain⟨r,_,h⟩:=oS h
    obtain⟨rs,h,_⟩:=que_ h
    exact Nat.le_trans (qnn_ h) (Nat.min_le_left _ _)
   ·obtain⟨r,_,h⟩:=oS h
    obtain⟨rs,h,_⟩:=que_ h
    exact qnn_ h
  ·exact qnn_ h
theorem execOpsO_ok {P:Program}{F:Fence}{n N:Nat}{n0:Bs}{E:EvT}(hE:EvOK P E)(hF:WideF F){ops:Array Oper}(hall:qsg_ N ops.toList=true){Q:Exit→Act→World→Prop} :
  ∀ (l:List Oper) (i:Nat),ops.toList.drop i=l→∀ {j:Nat} {T T':Tr Value} {H H':AH} {ps:List Prop} {σ:Ren} {w:World} {a:Act},qu7_ E ops.toList l j T H=some ((T',H'),ps)→AllP ps→TR σ N T a.tmps→HR n0 σ H w →
   (∀ a' w',At n0 N σ w T' H' a.defers a' w'→Q .normal a' w')→wpOpsIn F n P ops Q (List.range' i l.length) a w:=by
 intro l
 induction l with
 | nil=>
  intro i _ j T T' H H' ps σ w a h hp hT hr hQ
  obtain⟨h1,_⟩:=pI (oI h)
  obtain⟨rfl,rfl⟩:=pI h1
  exact hQ a w ⟨σ,hT,rfl,hr,Step.refl _ _ _ _⟩
 | cons o l ih=>
  intro i hi j T T' H H' ps σ w a h hp hT hr hQ
  have hget:ops[i]?=some o:=by
   have:=congrArg (fun m=>m[0]?) hi
   simpa [List.getElem?_drop] using this
  have hdrop:ops.toList.drop (i+1)=l:=by
   have:=congrArg (List.drop 1) hi
   simpa [List.drop_drop,Nat.add_comm] using this
  have hok:=qpn_ hall o (by have:=Array.mem_of_getElem? hget; simpa using this)
  simp only[operOk,bA] at hok
  rw[qxc_] at h
  obtain⟨hgk,h⟩:=sel_none h
  simp only[List.length_cons,List.range'_succ,wpOpsIn,hget]
  rw[qyu_ hT hall o hgk]
  rcases qa_ h with⟨hw,h⟩ | ⟨hw,h⟩
  ·rcases qa_ h with⟨hcf,h⟩ | ⟨hcf,h⟩
   case inr=>
    obtain⟨r,hr1,h⟩:=oS h
    obtain⟨rs,hh,e'⟩:=que_ h; subst e'; clear h; have h:=hh; clear hh
    obtain⟨hp1,hp2⟩:=AllP.append hp
    obtain⟨call,hcall,hr1⟩:=hE _ _ _ _ _ _ _ hr1 hp1
    rw[if_pos hw]
    simp only[Bool.or_eq_false_iff] at hcf
    obtain⟨hsame,hd,v',q1,q2⟩:=q1j_ (P:=P) hT hr hok.1 hcf.1 hcf.2 hr1
    refine⟨fun f _=>hF.fn f,?_⟩
    rw[Oper.semAt_eq F.round a.eval o hd,q1]
    refine ih (i+1) hdrop h hp2 (qyt_ hT hok.2 q2) hr ?_
    rintro a'' w'' ⟨σ'',h1,h2,h3,h4⟩
    exact hQ a'' w'' ⟨σ'',h1,by rw[h2,Act.put_defers'],h3,h4⟩
   obtain⟨r,hr1,h⟩:=oS h
   obtain⟨rs,hh,e'⟩:=que_ h; subst e'; clear h; have h:=hh; clear hh
   obtain⟨hp1,hp2⟩:=AllP.append hp
   obtain⟨call,hcall,hr1⟩:=hE _ _ _ _ _ _ _ hr1 hp1
   rw[if_pos hw]
   refine Oper.wpIn_mono ?_ (op_ok (hcall n0.n.n) hF hT hr.fresh' hok.1 hr1)
   rintro a' w' ⟨v',σ',rfl,hv,hr',st⟩
   refine ih (i+1) hdrop h hp2 (qyt_ (hT.mono st.ext) hok.2 hv) (hr'.back _) ?_
   rintro a'' w'' ⟨σ'',h1,h2,h3,h4⟩
   refine hQ a'' w'' ⟨σ'',h1,by rw[h2,Act.put_defers'],h3,?_⟩
   exact (st.lower (Nat.min_le_right H.low r.1.2.low)).trans h4 (qnn_ h)
  ·rw[if_neg (by rw[hw]; exact Bool.false_ne_true)]
   refine⟨fun f _=>hF.fn f,ih (i+1) hdrop h hp (qyt_ hT hok.2 (qo4_ σ)) hr ?_⟩
   rintro a'' w'' ⟨σ'',h1,h2,h3,h4⟩
   exact hQ a'' w'' ⟨σ'',h1,by rw[h2,Act.put_defers'],h3,h4⟩
def isMkS (op:Op):Bool:=
 match op with
 | .makeSlice _ _ _=>true
 | _=>false
def cellsOnly (b:ABlk):Option ABlk:=
 match b with
 | .cells c e=>some (.cells c e)
 | _=>none
noncomputable def fltO (E:Op→TypeId→Tr Value→AH→VO)(P:Program)(op:Op)(ty:TypeId)(T:Tr Value)(X:Nat):Option ((Value×ABlk)×List Prop):=
 sel (isMkS op) (oc (E op ty T ⟨.nil,X,X⟩) none fun r=>oc (r.1.2.blocks.get X) none fun b=>oc (cellsOnly b) none fun b=>some ((r.1.1,b),r.2)) (oc (fltOp P op T X) none fun r=>some (r,[]))
theorem fltO_ok {P:Program}{E:EvT}(hE:EvOK P E){j:Nat}{op:Op}{ty:TypeId}{T:Tr Value}{X:Nat}{r:Value×ABlk}{ps:List Prop}(h0:fltO (E j) P op ty T X=some (r,ps))(hp:AllP ps):fltOp P op T X=some r:=by
 rcases qa_ h0 with⟨hm,h⟩ | ⟨_,h⟩
 ·obtain⟨⟨⟨v,H'⟩,qs⟩,hq,h⟩:=oS h
  obtain⟨b,hb,h⟩:=oS h
  obtain⟨b',hb',h⟩:=oS h
  obtain⟨rfl,rfl⟩:=pI (oI h)
  obtain⟨call,_,he⟩:=hE _ _ _ _ _ _ _ hq hp
  cases op with
  | makeSlice t l c=>
   replace he:sel (mkU l c) (q0g_ P t (ev T c) ⟨.nil,X,X⟩) (qna_ P t (ev T l) (ev T c) ⟨.nil,X,X⟩)=some (v,H'):=he
   rcases qa_ he with⟨hmu,he⟩ | ⟨hmu,he⟩
   ·obtain⟨cn,hcn,he⟩:=oS he
    obtain⟨e,h1,he⟩:=oS he
    obtain⟨z,h2,he⟩:=oS he
    obtain⟨s,h3,he⟩:=oS he
    obtain⟨bs,h4,he⟩:=oS he
    obtain⟨h5,he⟩:=sel_none he
    obtain⟨rfl,rfl⟩:=pI (oI he)
    have hg:(AH.push ⟨.nil,X,X⟩ (.cells .nil e)).blocks.get X=some (.cells .nil e):=by simp[AH.push,Tr.get_set]
    have hb:(AH.push ⟨.nil,X,X⟩ (.cells .nil e)).blocks.get X=some b:=hb
    rw[hg] at hb
    obtain rfl:=oI hb
    obtain rfl:=oI hb'
    show sel (mkU l c) (oc (msGoU P t (ev T c)) none _) _=_
    unfold msGoU
    rw[hmu,sel_true,hcn,oc_some,h1,oc_some,h2,oc_some,h3,oc_some,h4,oc_some,h5,sel_true,oc_some]
   obtain⟨ln,hln,he⟩:=oS he
   obtain⟨cn,hcn,he⟩:=oS he
   obtain⟨e,h1,he⟩:=oS he
   obtain⟨z,h2,he⟩:=oS he
   obtain⟨s,h3,he⟩:=oS he
   obtain⟨bs,h4,he⟩:=oS he
   obtain⟨h5,he⟩:=sel_none he
   obtain⟨rfl,rfl⟩:=pI (oI he)
   have hg:(AH.push ⟨.nil,X,X⟩ (zerB (nilzL z) cn e)).blocks.get X=some (zerB (nilzL z) cn e):=by simp[AH.push,Tr.get_set]
   have hb:(AH.push ⟨.nil,X,X⟩ (zerB (nilzL z) cn e)).blocks.get X=some b:=hb
   rw[hg] at hb
   obtain rfl:=oI hb
   show sel (mkU l c) _ (oc (msGo P t (ev T l) (ev T c)) none _)=_
   unfold msGo
   rw[hmu,sel_false,hln,oc_some,hcn,oc_some,h1,oc_some,h2,oc_some,h3,oc_some,h4,oc_some,h5,sel_true,oc_some]
   unfold zerB at hb'
   cases hc:(Nat.ble 4096 cn&&isZ8 (nilzL z)) with
   | true=>rw[hc] at hb'; cases hb'
   | false=>
    rw[hc] at hb'
    obtain rfl:=oI hb'
    rfl
  | _=>cases hm
 ·obtain⟨q,hq,h⟩:=oS h
  obtain⟨rfl,rfl⟩:=pI (oI h)
  exact hq
noncomputable def chgStepO (E:EvT)(P:Program)(p:Plan)(ops:List Oper)(base:Nat)(hs:List AH)(F:Tr ABlk)(rd:Nat→List Nat)(o:Oper)(j:Nat)(T:Tr Value)(H:AH):Option (((Value×AH)×List Nat)×List Prop):=
 oc (E j o.op o.type T H.fresh) none fun r=>sel (chgOk P p ops base hs F rd o j T H r.1.2) (some (((r.1.1,r.1.2.back H.low),wrL P p ops base rd o j T H r.1.2),r.2)) none
noncomputable def quf_ (E:EvT)(P:Program)(all:List Oper)(p:Plan)(base:Nat)(l:List Oper):Nat→Tr Value→AH→List AH→Tr ABlk→Tr (List Nat)→List Nat→Option ((Tr Value×AH×Tr ABlk)×List Prop):=
 @List.rec Oper (fun _=>Nat→Tr Value→AH→List AH→Tr ABlk→Tr (List Nat)→List Nat→Option ((Tr Value×AH×Tr ABlk)×List Prop)) (fun _ T H hs F _ _=>sel (endOk p all base hs) (some ((T,H,F),[])) none)
  (fun o _ ih j T H hs F R W=>sel (isIns o.op) none <| sel (qnk_ all o T) (sel (qf2_ all o T)
   (sel (isFlt o.op) (oc (fltO (E j) P o.op o.type T (Nat.add base j)) none fun r=>addP r.2 (ih (Nat.succ j) (putO T o.dst r.1.1) H hs (F.set j r.1.2) R W))
    (sel (isCh2 o.op) (oc (chgStepO E P p all base hs F (rdOf R) o j T (addFs F.get base (p.f j) H)) none fun r=>addP r.2 (sel (nilN r.1.2) (ih (Nat.succ j) (putO T o.dst r.1.1.1) r.1.1.2 (r.1.1.2::hs) F R W) (ih (Nat.succ j) (putO T o.dst r.1.1.1) r.1.1.2 (r.1.1.2::hs) F (R.set j r.1.2) (j::W))))
     (sel (isMem P o.op) (oc (hs[Nat.sub (p.n j) (p.c j)]?) none fun G=>oc (E j o.op o.type T (oneB (rdsOp T o.op) (addFs F.get base (p.f j) G))) none fun r=>addP r.2 (sel (lateOk p base F hs R W j (rdsOp T o.op)) (ih (Nat.succ j) (putO T o.dst r.1.1) H hs F (R.set j (rdsOp T o.op)) W) none))
      (oc (E j o.op o.type T H) none fun r=>addP r.2 (ih (Nat.succ j) (putO T o.dst r.1.1) H hs F R W)))))
   (sel (isCh2 o.op) (ih (Nat.succ j) (putO T o.dst undef) (addFs F.get base (p.f j) H) (addFs F.get base (p.f j) H::hs) F R W) (ih (Nat.succ j) (putO T o.dst undef) H hs F R W))) none) l
theorem drawGoO_cons (E:EvT)(P:Program)(all:List Oper)(p:Plan)(base:Nat)(o:Oper)(l:List Oper)(j:Nat)(T:Tr Value)(H:AH)(hs:List AH)(F:Tr ABlk)(R:Tr (List Nat))(W:List Nat):quf_ E P all p base (o::l) j T H hs F R W=(sel (isIns o.op) none <| sel (qnk_ all o T) (sel (qf2_ all o T)
   (sel (isFlt o.op) (oc (fltO (E j) P o.op o.type T (Nat.add base j)) none fun r=>addP r.2 (quf_ E P all p base l (j+1) (putO T o.dst r.1.1) H hs (F.set j r.1.2) R W))
    (sel (isCh2 o.op) (oc (chgStepO E P p all base hs F (rdOf R) o j T (addFs F.get base (p.f j) H)) none fun r=>addP r.2 (sel (nilN r.1.2) (quf_ E P all p base l (j+1) (putO T o.dst r.1.1.1) r.1.1.2 (r.1.1.2::hs) F R W) (quf_ E P all p base l (j+1) (putO T o.dst r.1.1.1) r.1.1.2 (r.1.1.2::hs) F (R.set j r.1.2) (j::W))))
     (sel (isMem P o.op) (oc (hs[Nat.sub (p.n j) (p.c j)]?) none fun G=>oc (E j o.op o.type T (oneB (rdsOp T o.op) (addFs F.get base (p.f j) G))) none fun r=>addP r.2 (sel (lateOk p base F hs R W j (rdsOp T o.op)) (quf_ E P all p base l (j+1) (putO T o.dst r.1.1) H hs F (R.set j (rdsOp T o.op)) W) none))
      (oc (E j o.op o.type T H) none fun r=>addP r.2 (quf_ E P all p base l (j+1) (putO T o.dst r.1.1) H hs F R W)))))
   (sel (isCh2 o.op) (quf_ E P all p base l (j+1) (putO T o.dst undef) (addFs F.get base (p.f j) H) (addFs F.get base (p.f j) H::hs) F R W) (quf_ E P all p base l (j+1) (putO T o.dst undef) H hs F R W))) none):=rfl
theorem qu8_ {P:Program}{call call':Nat→CallT}{all:List Oper}{p:Plan}{base:Nat}:∀ (l:List Oper) (j:Nat) (T:Tr Value) (H:AH) (hs:List AH) (F:Tr ABlk) (R:Tr (List Nat)) (W:List Nat),(∀ k,j≤k→call k=call' k)→qle_ P call all p base l j T H hs F R W=qle_ P call' all p base l j T H hs F R W
 | [],j,T,H,hs,F,R,W,h=>rfl
 | o::l,j,T,H,hs,F,R,W,h=>by
  rw[qgk_,qgk_,h j (Nat.le_refl _)]
  have ih:∀ T H hs F R W,qle_ P call all p base l (j+1) T H hs F R W=qle_ P call' all p base l (j+1) T H hs F R W:=fun T H hs F R W=>qu8_ l (j+1) T H hs F R W fun k hk=>h k (by omega)
  simp only[ih]
open Classical in
theorem qlf_ {E:EvT}{P:Program}(hE:EvOK P E){all:List Oper}{p:Plan}{base:Nat}:∀ (l:List Oper) (j:Nat) (T:Tr Value) (H:AH) (hs:List AH) (F:Tr ABlk) (R:Tr (List Nat)) (W:List Nat) (x:Tr Value×AH×Tr ABlk) (ps:List Prop),
  quf_ E P all p base l j T H hs F R W=some (x,ps)→AllP ps→∃ call:Nat→CallT,(∀ k,CallU P (call k))∧qle_ P call all p base l j T H hs F R W=some x
 | [],j,T,H,hs,F,R,W,x,ps,h,hp=>by
  obtain⟨he,h⟩:=sel_none (b:=endOk p all base hs) h
  obtain⟨rfl,rfl⟩:=pI (oI h)
  exact⟨fun _=>noC,fun _=>noneC_ok P,by rw[drawGo_nil,he,sel_true]⟩
 | o::l,j,T,H,hs,F,R,W,x,ps,h,hp=>by
  have join:∀ {c:CallT} {rest:Nat→CallT},CallU P c→(∀ k,CallU P (rest k))→∀ {T H hs F R W y},qle_ P rest all p base l (j+1) T H hs F R W=y→(∀ k,CallU P (if k=j then c else rest k))∧(if j=j then c else rest j)=c∧qle_ P (fun k=>if k=j then c else rest k) all p base l (j+1) T H hs F R W=y:=by
   intro c rest hc hrest T H hs F R W y hy
   refine⟨fun k=>?_,if_pos rfl,?_⟩
   ·by_cases hk:k=j
    ·rw[if_pos hk]; exact hc
    ·rw[if_neg hk]; exact hrest k
   ·rw[←hy]
    exact qu8_ l (j+1) T H hs F R W fun k hk=>if_neg (by omega)
  rw[drawGoO_cons] at h
  rcases qa_ h with⟨_,h⟩ | ⟨hi,h⟩
  ·cases h
  obtain⟨hg,h⟩:=sel_none h
  rcases qa_ h with⟨hw,h⟩ | ⟨hw,h⟩
  ·rcases qa_ h with⟨hf,h⟩ | ⟨hf,h⟩
   ·obtain⟨r,hr,h⟩:=oS h
    obtain⟨rs,hh,e'⟩:=que_ h; subst e'; clear h; have h:=hh; clear hh
    obtain⟨hp1,hp⟩:=AllP.append hp
    replace hr:=fltO_ok hE hr hp1
    obtain⟨call,h1,h2⟩:=qlf_ hE _ _ _ _ _ _ _ _ _ _ h hp
    refine⟨call,h1,?_⟩
    rw[qgk_,hg,sel_true,hw,sel_true,hi,sel_false,hf,sel_true,hr,oc_some,h2]
   ·rcases qa_ h with⟨hc,h⟩ | ⟨hc,h⟩
    ·obtain⟨r,hr,h⟩:=oS h
     obtain⟨rs,hh,e'⟩:=que_ h; subst e'; clear h; have h:=hh; clear hh
     obtain⟨hp1,hp2⟩:=AllP.append hp
     obtain⟨q,hq,hr⟩:=oS hr
     obtain⟨hb,hr⟩:=sel_none hr
     obtain rfl:=oI hr
     obtain⟨c,hcall,hev⟩:=hE _ _ _ _ _ _ _ hq hp1
     have main:∀ {rest:Nat→CallT},(∀ k,CallU P (rest k))→(sel (nilN (wrL P p all base (rdOf R) o j T (addFs F.get base (p.f j) H) q.1.2)) (qle_ P rest all p base l (j+1) (putO T o.dst q.1.1) (q.1.2.back (addFs F.get base (p.f j) H).low) (q.1.2.back (addFs F.get base (p.f j) H).low::hs) F R W) (qle_ P rest all p base l (j+1) (putO T o.dst q.1.1) (q.1.2.back (addFs F.get base (p.f j) H).low) (q.1.2.back (addFs F.get base (p.f j) H).low::hs) F (R.set j (wrL P p all base (rdOf R) o j T (addFs F.get base (p.f j) H) q.1.2)) (j::W))=some x) →
       ∃ call:Nat→CallT,(∀ k,CallU P (call k))∧qle_ P call all p base (o::l) j T H hs F R W=some x:=by
      intro rest hrest hgo
      refine⟨fun k=>if k=j then c else rest k,fun k=>?_,?_⟩
      ·by_cases hk:k=j
       ·simp only[if_pos hk]; exact hcall
       ·simp only[if_neg hk]; exact hrest k
      ·rw[qgk_,hg,sel_true,hw,sel_true,hi,sel_false,hf,sel_false,hc,sel_true,if_pos rfl]
       unfold chgStep
       rw[hev,oc_some,hb,sel_true,oc_some]
       have cg:∀ T H hs F R W,qle_ P (fun k=>if k=j then c else rest k) all p base l (j+1) T H hs F R W=qle_ P rest all p base l (j+1) T H hs F R W:=fun T H hs F R W=>qu8_ l (j+1) T H hs F R W fun k hk=>if_neg (by omega)
       simp only[cg]
       exact hgo
     rcases qa_ h with⟨hn,h⟩ | ⟨hn,h⟩
     ·obtain⟨call,h1,h2⟩:=qlf_ hE _ _ _ _ _ _ _ _ _ _ h hp2
      exact main h1 (by simp only at hn; rw[hn,sel_true]; exact h2)
     ·obtain⟨call,h1,h2⟩:=qlf_ hE _ _ _ _ _ _ _ _ _ _ h hp2
      exact main h1 (by simp only at hn; rw[hn,sel_false]; exact h2)
    ·rcases qa_ h with⟨hm,h⟩ | ⟨hm,h⟩
     ·obtain⟨G,hG,h⟩:=oS h
      obtain⟨r,hr,h⟩:=oS h
      obtain⟨rs,hh,e'⟩:=que_ h; subst e'; clear h; have h:=hh; clear hh
      obtain⟨hp1,hp2⟩:=AllP.append hp
      obtain⟨hl,h⟩:=sel_none h
      obtain⟨c,hcall,hev⟩:=hE _ _ _ _ _ _ _ hr hp1
      obtain⟨rest,h1,h2⟩:=qlf_ hE _ _ _ _ _ _ _ _ _ _ h hp2
      obtain⟨j1,j2,j3⟩:=join hcall h1 h2
      refine⟨fun k=>if k=j then c else rest k,j1,?_⟩
      rw[qgk_,hg,sel_true,hw,sel_true,hi,sel_false,hf,sel_false,hc,sel_false,hm,sel_true,hG,oc_some,if_pos rfl,hev,oc_some,hl,sel_true,j3]
     ·obtain⟨r,hr,h⟩:=oS h
      obtain⟨rs,hh,e'⟩:=que_ h; subst e'; clear h; have h:=hh; clear hh
      obtain⟨hp1,hp2⟩:=AllP.append hp
      obtain⟨c,hcall,hev⟩:=hE _ _ _ _ _ _ _ hr hp1
      obtain⟨rest,h1,h2⟩:=qlf_ hE _ _ _ _ _ _ _ _ _ _ h hp2
      obtain⟨j1,j2,j3⟩:=join hcall h1 h2
      refine⟨fun k=>if k=j then c else rest k,j1,?_⟩
      rw[qgk_,hg,sel_true,hw,sel_true,hi,sel_false,hf,sel_false,hc,sel_false,hm,sel_false,if_pos rfl,hev,oc_some,j3]
  ·rcases qa_ h with⟨hc,h⟩ | ⟨hc,h⟩
   ·obtain⟨call,h1,h2⟩:=qlf_ hE _ _ _ _ _ _ _ _ _ _ h hp
    exact⟨call,h1,by rw[qgk_,hg,sel_true,hw,sel_false,hi,sel_false,hc,sel_true,h2]⟩
   ·obtain⟨call,h1,h2⟩:=qlf_ hE _ _ _ _ _ _ _ _ _ _ h hp
    exact⟨call,h1,by rw[qgk_,hg,sel_true,hw,sel_false,hi,sel_false,hc,sel_false,h2]⟩
noncomputable def regDrawO (E:EvT)(P:Program)(N:Nat)(ops:List Oper)(T:Tr Value)(H:AH):Option ((Tr Value×AH)×List Prop):=
 sel (drawOk (qsi_ ops) N ops) (sel (Nat.ble (Nat.add H.next (qsi_ ops).wd) big) (oc (quf_ E P ops (qsi_ ops) H.next ops 0 T ⟨H.blocks,Nat.add H.next (qsi_ ops).wd,H.low⟩ [⟨H.blocks,Nat.add H.next (qsi_ ops).wd,H.low⟩] .nil .nil []) none fun r=>some ((r.1.1,addFs r.1.2.2.get H.next (qsi_ ops).fin r.1.2.1),r.2)) none) none
theorem regDrawO_ok {E:EvT}{P:Program}(hE:EvOK P E){N:Nat}{ops:List Oper}{T:Tr Value}{H:AH}{x:Tr Value×AH}{ps:List Prop}(h:regDrawO E P N ops T H=some (x,ps))(hp:AllP ps):∃ call:Nat→CallT,(∀ k,CallU P (call k))∧qy7_ P call N ops T H=some x:=by
 obtain⟨h1,h⟩:=sel_none h
 obtain⟨h2,h⟩:=sel_none h
 obtain⟨r,hr,h⟩:=oS h
 obtain⟨rfl,rfl⟩:=pI (oI h)
 obtain⟨call,c1,c2⟩:=qlf_ hE _ _ _ _ _ _ _ _ _ _ hr hp
 refine⟨call,c1,?_⟩
 unfold qy7_
 rw[h1,sel_true,h2,sel_true,c2,oc_some]
theorem regDrawF_low {P:Program}{call:Nat→CallT}{N:Nat}{ops:List Oper}{T T':Tr Value}{H H':AH}(h:qy7_ P call N ops T H=some (T',H')):H'.low≤H.low:=by
 obtain⟨_,h⟩:=sel_none h
 obtain⟨_,h⟩:=sel_none h
 obtain⟨⟨a,b,c⟩,hr,h⟩:=oS h
 obtain⟨rfl,rfl⟩:=pI (oI h)
 have:=qh0_ hr
 exact this
noncomputable def regionO (E:EvT)(P:Program)(N:Nat)(draw:Bool)(ops:List Oper)(T:Tr Value)(H:AH):Option ((Tr Value×AH)×List Prop):=
 sel draw (regDrawO E P N ops T H) (sel (qsg_ N ops) (qu7_ E ops ops 0 T H) none)
theorem regionO_ok {E:EvT}{P:Program}(hm:P.follows .mixedOrders=true)(hE:EvOK P E){N:Nat}{draw:Bool}{ops:Array Oper}{T T':Tr Value}{H H':AH}{ps:List Prop}(h:regionO E P N draw ops.toList T H=some ((T',H'),ps))(hp:AllP ps) :
  H'.low≤H.low∧∀ (n0:Bs) (F:Fence) (nn id:Nat) (σ:Ren) (w:World) (a:Act),WideF F→TR σ N T a.tmps→HR n0 σ H w→∀ Q:Exit→Act→World→Prop,(∀ a' w',At n0 N σ w T' H' a.defers a' w'→Q .normal a' w')→(Code.region id ops draw).wpIn F nn P Q a w:=by
 rcases qa_ h with⟨rfl,h⟩ | ⟨rfl,h⟩
 ·obtain⟨call,h1,h2⟩:=regDrawO_ok hE h hp
  exact⟨regDrawF_low h2,fun n0 F nn id σ w a hF hT hr Q hQ=>q0r_ (n0:=n0.n.n) (QQ:=n0.n.Q) (X:=n0.X) hm (fun j=>h1 j n0.n.n) hF h2 hT hr hQ⟩
 ·obtain⟨hall,h⟩:=sel_none h
  refine⟨qnn_ h,fun n0 F nn id σ w a hF hT hr Q hQ=>wpIn_region ?_⟩
  have:=execOpsO_ok (n0:=n0) (n:=nn) hE hF hall (Q:=Q) ops.toList 0 (by simp) h hp hT hr hQ
  rwa [List.range_eq_range',show ops.size=ops.toList.length by simp]
end Go.Proofs.YthlikofobjhcoaaGreat.Ax
namespace Go.Proofs.YthlikofobjhcoaaGreat.Ax
open Go.RowKit
variable [Tabs]
theorem evA_EvOK (P:Program)(A:Tr Ans)(k:Nat):EvOK P (fun j=>evA P (A.get (Nat.add k j))):=fun j op ty T H r ps h hp=>evA_ok h hp
structure LAns where
 wk:WkS
 ex:Ex
 s':XSt
abbrev XO:=Option ((Ex×XSt×Nat)×List Prop)
noncomputable def bindO (r:XO)(k:XSt→Nat→XO):XO:=oc r none fun x=>@Ex.rec (fun _=>XO) (addP x.2 (k x.1.2.1 x.1.2.2)) (fun i=>some x) (some x) x.1.1
noncomputable def blockO (i:Nat)(r:XO):XO:=oc r none fun x=>@Ex.rec (fun _=>XO) (some x) (fun j=>sel (Nat.beq j i) (some ((.normal,x.1.2),x.2)) (some x)) (some x) x.1.1
noncomputable def regO (P:Program)(A:Tr Ans)(N:Nat)(draw:Bool)(ops:List Oper)(k:Nat)(s:XSt):XO:=
 oc (regionO (fun j=>evA P (A.get (Nat.add k j))) P N draw ops s.1 s.2.2) none fun r=>some ((.normal,(r.1.1,s.2.1,r.1.2),Nat.add k ops.length),r.2)
noncomputable def condO (A:Tr Ans)(c:Operand)(k:Nat)(s:XSt)(x y:XO):XO:=
 sel (opdOk c) (oc (A.get k) (oc (asB (ev s.1 c)) none fun b=>sel b x y) fun a=>match a with
  | .val (.bool g)=>addP [ev s.1 c=.bool g] (sel g x y)
  | _=>none) none
noncomputable def cutO (P:Program)(rnd:Option Nat)(N m:Nat)(c:Code)(k:Nat)(s:XSt)(l:LAns):XO:=
 oc (weakW N m l.wk s) none fun r=>some ((l.ex,l.s',Nat.succ k),CG P rnd N m c r.1 (l.ex,l.s')::r.2)
def pendX (c:Code)(s:XSt):XRes:=
 match c with
 | .ret=>some (.ret,s)
 | .exit i=>some (.exit i,s)
 | _=>none
noncomputable def rngH (T:Tr Value)(N:Nat)(ps:Array Tmp)(as bd:Code)(H:AH):AH:=(H.push (.marks true)).push (.loop ⟨.ready,none,T,N,ps,as,bd,H.next⟩)
noncomputable def rangeO (P:Program)(A:Tr Ans)(rnd:Option Nat)(N:Nat)(f:Operand)(ps:Array Tmp)(as bd:Code)(k:Nat)(s:XSt):XO:=
 oc rnd (oc (A.get k) none fun a=>match a with
  | .rng c sl=>oc (keepT ⟨some,fun _=>none,false,fun _=>false⟩ N s.1 sl) none fun T=>sel (opdOk f) (oc (fnVal (ev T f) [.func (.yield (Nat.succ s.2.2.next)) #[] #[]]) none fun p=>oc (isFuncN p.1) none fun g=>oc (frameR c p.2 (rngH T N ps as bd s.2.2).fresh) none fun r=>
   oc (leaveRF pendX T (.mark s.2.2.next::s.2.1) (Nat.succ s.2.2.next) (r.2.2.back (rngH T N ps as bd s.2.2).low)) none fun x=>some ((x.1,x.2,Nat.succ k),Gv P (.func g) r.1.1 ⟨r.1.2,c.k,c.k⟩ c.v c.H1::(qwt_ (rngH T N ps as bd s.2.2).fresh.blocks c.ins++qwt_ c.H1.blocks c.outs))) none
  | _=>none) fun _=>none
noncomputable def cutL (P:Program)(rnd:Option Nat)(N m:Nat)(b:Code)(k:Nat)(s:XSt)(l:LAns):XO:=
 oc (weakW N m l.wk s) none fun r=>some ((l.ex,l.s',Nat.succ k),LG P rnd N m b r.1 (l.ex,l.s')::r.2)
noncomputable def loopW (P:Program)(L:Tr LAns)(rnd:Option Nat)(N m:Nat)(b:Code)(f:Nat→XSt→XO):Nat→Nat→XSt→XO:=
 @Nat.rec (fun _=>Nat→XSt→XO) (fun _ _=>none) (fun _ ih k s=>oc (L.get k) (bindO (f (Nat.succ k) s) fun s k=>ih k s) (cutL P rnd N m b k s))
noncomputable def execA (P:Program)(A:Tr Ans)(L:Tr LAns)(rnd:Option Nat)(N m n:Nat):Code→Nat→XSt→XO:=
 @Nat.rec (fun _=>Code→Nat→XSt→XO) (fun _ _ _=>none)
  (fun _ ih c k s=>@Code.rec (fun _=>XO)
   (some ((.normal,s,k),[]))
   (fun _ ops draw=>regO P A N draw ops.toList k s)
   (fun a b _ _=>oc (L.get k) (bindO (ih a (Nat.succ k) s) fun s k=>ih b k s) (cutO P rnd N m (.seq a b) k s))
   (fun c a b _ _=>oc (L.get k) (condO A c k s (ih a (Nat.succ k) s) (ih b (Nat.succ k) s)) (cutO P rnd N m (.cond c a b) k s))
   (fun i b _=>oc (L.get k) (blockO i (ih b (Nat.succ k) s)) (cutO P rnd N m (.block i b) k s))
   (fun b _=>oc (L.get k) (bindO (ih b (Nat.succ k) s) fun s k=>loopW P L rnd N m b (fun k s=>ih b k s) 40 k s) (cutO P rnd N m (.loop b) k s))
   (fun f ps as bd _ _=>rangeO P A rnd N f ps as bd k s)
   (fun i=>some ((.exit i,s,k),[]))
   (fun b _=>ih b k s)
   (fun _=>some ((.normal,s,k),[]))
   (fun _=>none)
   (some ((.ret,s,k),[]))
   (fun _=>none) c) n
section eqs
variable (P:Program) (A:Tr Ans) (L:Tr LAns) (rnd:Option Nat) (N m n k:Nat) (s:XSt)
theorem execA_seq (a b:Code):execA P A L rnd N m (n+1) (.seq a b) k s=oc (L.get k) (bindO (execA P A L rnd N m n a (k+1) s) fun s k=>execA P A L rnd N m n b k s) (cutO P rnd N m (.seq a b) k s):=rfl
theorem execA_cond (c:Operand)(a b:Code):execA P A L rnd N m (n+1) (.cond c a b) k s=oc (L.get k) (condO A c k s (execA P A L rnd N m n a (k+1) s) (execA P A L rnd N m n b (k+1) s)) (cutO P rnd N m (.cond c a b) k s):=rfl
theorem execA_block (i:Nat)(b:Code):execA P A L rnd N m (n+1) (.block i b) k s=oc (L.get k) (blockO i (execA P A L rnd N m n b (k+1) s)) (cutO P rnd N m (.block i b) k s):=rfl
theorem execA_loop (b:Code):execA P A L rnd N m (n+1) (.loop b) k s=oc (L.get k) (bindO (execA P A L rnd N m n b (k+1) s) fun s k=>loopW P L rnd N m b (fun k s=>execA P A L rnd N m n b k s) 40 k s) (cutO P rnd N m (.loop b) k s):=rfl
theorem execA_scope (b:Code):execA P A L rnd N m (n+1) (.scope b) k s=execA P A L rnd N m n b k s:=rfl
theorem execA_range (f:Operand)(ps:Array Tmp)(as bd:Code):execA P A L rnd N m (n+1) (.rangeFunc f ps as bd) k s=rangeO P A rnd N f ps as bd k s:=rfl
theorem execA_region (id:Nat)(ops:Array Oper)(d:Bool):execA P A L rnd N m (n+1) (.region id ops d) k s=regO P A N d ops.toList k s:=rfl
end eqs
theorem bindO_eq {r:XO}{k:XSt→Nat→XO}{y:Ex×XSt×Nat}{ps:List Prop}(h:bindO r k=some (y,ps)) :
  (∃ s j qs rs,r=some ((.normal,s,j),qs)∧k s j=some (y,rs)∧ps=qs++rs)∨(y.1 ≠ .normal∧r=some (y,ps)):=by
 obtain⟨⟨⟨e,s,j⟩,qs⟩,hr,h⟩:=oS h
 cases e with
 | normal=>
  obtain⟨rs,h1,h2⟩:=que_ h
  exact .inl ⟨s,j,qs,rs,hr,h1,h2⟩
 | exit i=>
  obtain⟨rfl,rfl⟩:=pI (oI h)
  exact .inr ⟨(fun h=>by cases h),hr⟩
 | ret=>
  obtain⟨rfl,rfl⟩:=pI (oI h)
  exact .inr ⟨(fun h=>by cases h),hr⟩
theorem CG.refl (P:Program)(rnd:Option Nat)(N m:Nat)(s:XSt){c:Code}{e:Ex}(h:∀ (F:Fence) (n:Nat) (Q:Exit→Act→World→Prop) (a:Act) (w:World),Q (eR e) a w→c.wpIn F n P Q a w):CG P rnd N m c s (e,s):=
 fun n0 F n σe we a w h1 h2 h3 h4 h5=>h F n _ a w ⟨rfl,h5⟩
theorem CG.seq {P:Program}{rnd:Option Nat}{N m:Nat}{a b:Code}{s s1:XSt}{x:Ex×XSt}(h:CG P rnd N m a s (.normal,s1))(k:CG P rnd N m b s1 x):CG P rnd N m (.seq a b) s x:=
 fun n0 F n σe we a w h1 h2 h3 h4 h5=>wpIn_seq (wpIn_mono (h n0 F n σe we a w h1 h2 h3 h4 h5) (by
  rintro e a' w' ⟨rfl,q⟩
  exact k n0 F n σe we a' w' h1 h2 h3 h4 q))
theorem CG.seqOut {P:Program}{rnd:Option Nat}{N m:Nat}{a b:Code}{s:XSt}{x:Ex×XSt}(h:CG P rnd N m a s x)(hx:x.1 ≠ .normal):CG P rnd N m (.seq a b) s x:=
 fun n0 F n σe we a w h1 h2 h3 h4 h5=>wpIn_seq (wpIn_mono (h n0 F n σe we a w h1 h2 h3 h4 h5) (by
  rintro e a' w' hq
  have he:e ≠ .normal:=by
   rw[hq.1]; intro hx'
   cases hx1:x.1<;>rw[hx1] at hx' hx<;>first | exact hx rfl | cases hx'
  cases e<;>first | exact absurd rfl he | exact hq))
theorem CG.cond {P:Program}{rnd:Option Nat}{N m:Nat}{c:Operand}{a b:Code}{s:XSt}{x:Ex×XSt}{g:Bool}(hc:opdOk c=true)(hg:ev s.1 c=.bool g)(h:CG P rnd N m (sel g a b) s x):CG P rnd N m (.cond c a b) s x:=by
 intro n0 F n σe we a w h1 h2 h3 h4 h5
 have h6:=h n0 F n σe we a w h1 h2 h3 h4 h5
 obtain⟨σ,hT,_⟩:=h5
 have hv:=ev_ok (a:=a) hT hc
 rw[hg] at hv
 generalize hcv:a.eval c=cv at hv
 cases hv
 refine wpIn_cond hcv ?_
 cases g
 ·exact h6
 ·exact h6
theorem CG.block {P:Program}{rnd:Option Nat}{N m i:Nat}{b:Code}{s:XSt}{x:Ex×XSt}(h:CG P rnd N m b s x):CG P rnd N m (.block i b) s (@Ex.rec (fun _=>Ex×XSt) x (fun j=>sel (Nat.beq j i) (.normal,x.2) x) x x.1):=by
 intro n0 F n σe we a w h1 h2 h3 h4 h5
 refine wpIn_block (wpIn_mono (h n0 F n σe we a w h1 h2 h3 h4 h5) ?_)
 rintro e' a' w' ⟨rfl,hq⟩
 obtain⟨e,s1⟩:=x
 cases e with
 | normal=>exact⟨rfl,hq⟩
 | ret=>exact⟨rfl,hq⟩
 | exit j=>
  show (if j=i then _ else _)
  by_cases hji:j=i
  ·subst hji
   rw[if_pos rfl]
   show Exit.normal=eR (sel (Nat.beq j j) (Ex.normal,s1) (Ex.exit j,s1)).1∧InvS n0 N m σe we (sel (Nat.beq j j) (Ex.normal,s1) (Ex.exit j,s1)).2 a' w'
   rw[Nat.beq_refl]
   exact⟨rfl,hq⟩
  ·rw[if_neg hji]
   show Exit.exit j=eR (sel (Nat.beq j i) (Ex.normal,s1) (Ex.exit j,s1)).1∧InvS n0 N m σe we (sel (Nat.beq j i) (Ex.normal,s1) (Ex.exit j,s1)).2 a' w'
   have:Nat.beq j i=false:=by
    cases hb:Nat.beq j i with
    | false=>rfl
    | true=>exact absurd (nB hb) hji
   rw[this]
   exact⟨rfl,hq⟩
theorem CG.scope {P:Program}{rnd:Option Nat}{N m:Nat}{b:Code}{s:XSt}{x:Ex×XSt}(h:CG P rnd N m b s x):CG P rnd N m (.scope b) s x:=by
 intro n0 F n σe we a w h1 h2 h3 h4 h5
 refine qyx_ ?_ (h n0 F n σe we a w h1 h2 h3 h4 h5)
 intro l a' w' hq
 have he:=hq.1
 cases hx1:x.1<;>rw[hx1] at he<;>cases he
theorem CG.region {P:Program}(hm:P.follows .mixedOrders=true){E:EvT}(hE:EvOK P E){rnd:Option Nat}{N m id:Nat}{draw:Bool}{ops:Array Oper}{T T':Tr Value}{D:List DItem}{H H':AH}{ps:List Prop}(h:regionO E P N draw ops.toList T H=some ((T',H'),ps))(hp:AllP ps) :
  CG P rnd N m (.region id ops draw) (T,D,H) (.normal,(T',D,H')):=by
 obtain⟨hl,hgo⟩:=regionO_ok hm hE h hp
 intro n0 F n σe we a w h1 h2 h3 h4 ⟨σ,hT,hD,hr,st⟩
 refine hgo n0 F n id σ w a h1 hT hr _ ?_
 rintro a' w' ⟨σ',q1,q2,q3,q4⟩
 refine⟨rfl,σ',q1,by rw[q2]; exact hD.mono q4.ext,q3,?_⟩
 have q4:Step n0 σ w H'.low σ' w':=q4
 have hle:Nat.min H'.low m≤Nat.min H.low m:=Nat.le_min.2 ⟨Nat.le_trans (Nat.min_le_left _ _) hl,Nat.min_le_right _ _⟩
 exact st.trans (q4.lower (Nat.min_le_left _ _)) hle
theorem CG.ofExec {P:Program}{call:CallT}(hcall:CallU P call)(hm:P.follows .mixedOrders=true){rnd:Option Nat}{N m:Nat}{c:Code}{s:XSt}{x:Ex×XSt}{k:Nat}(h:exec (fun _ _ _ _ _=>none) P call rnd N k c s=some x):CG P rnd N m c s x:=by
 intro n0 F n σe we a w h1 h2 h3 h4 ⟨σ,hT,hD,hr,st⟩
 have hrd:RdOK P n0.n.n (fun _ _ _ _ _=>none):=fun Q X call hc F hF n N id ops T T' H H' σ w a h=>by cases h
 have hlow:RdLow (fun _ _ _ _ _=>none):=fun call N ops T H T' H' h=>by cases h
 have hc:qn1_ P n0.n.n call:=hcall _
 have h2':RndR σ rnd F.round:=h2.mono st.ext
 have hx:=exec_ok (n0:=n0) hc hrd hlow k c s x h F n σ w a h1 h2' hT hD hr
 have hl:=qyz_ hlow k c s x h
 refine wpIn_mono hx ?_
 rintro e a' w' ⟨rfl,σ',q1,q2,q3,q4⟩
 refine⟨rfl,σ',q1,q2,q3,?_⟩
 have hle:Nat.min x.2.2.2.low m≤Nat.min s.2.2.low m:=Nat.le_min.2 ⟨Nat.le_trans (Nat.min_le_left _ _) hl,Nat.min_le_right _ _⟩
 exact st.trans (q4.lower (Nat.min_le_left _ _)) hle
theorem pendX_exec {P:Program}{call:CallT}{rnd:Option Nat}{N k:Nat}{c:Code}{s:XSt}{x:Ex×XSt}(h:pendX c s=some x):exec (fun _ _ _ _ _=>none) P call rnd N (k+1) c s=some x:=by
 unfold pendX at h
 split at h
 ·exact h
 ·exact h
 ·cases h
theorem rangeO_ok {P:Program}(hm:P.follows .mixedOrders=true){A:Tr Ans}{rnd:Option Nat}{N m:Nat}{f:Operand}{ps:Array Tmp}{as bd:Code}{k:Nat}{s:XSt}{x:Ex×XSt×Nat}{qs:List Prop}(h:rangeO P A rnd N f ps as bd k s=some (x,qs))(hp:AllP qs):CG P rnd N m (.rangeFunc f ps as bd) s (x.1,x.2.1):=by
 unfold rangeO at h
 cases rnd with
 | some l=>cases h
 | none=>
  rw[oc_none] at h
  obtain⟨an,ha,h⟩:=oS h
  split at h
  ·rename_i c sl
   obtain⟨T,hTk,h⟩:=oS h
   have hwk:Wk N m s (T,s.2.1,s.2.2):=fun n0 σe we a w hm' hX ⟨σ,hT,hD,hr,st⟩=>⟨σ,keepT_ok ⟨fun b b' hb t ht=>by obtain rfl:=oI hb; exact ht,fun _ _ _ h=>h,fun b j hj=>by cases hj⟩ hT hTk,hD,hr,st⟩
   refine CG.pre hwk ?_
   obtain⟨hof,h⟩:=sel_none h
   obtain⟨p,hp1,h⟩:=oS h
   obtain⟨g,hg,h⟩:=oS h
   obtain⟨q,hq,h⟩:=oS h
   obtain⟨y,hy,h⟩:=oS h
   obtain⟨rfl,rfl⟩:=pI (oI h)
   obtain⟨⟨a0,B0⟩,⟨v,H'⟩⟩:=q
   obtain⟨p1,p2⟩:=hp
   obtain⟨p2,p3⟩:=AllP.append p2
   have hpg:p.1=.func g:=by
    unfold isFuncN at hg
    split at hg
    ·obtain rfl:=oI hg; assumption
    ·cases hg
   have hG:Gv P (.func g) p.2 (rngH T N ps as bd s.2.2).fresh v H':=frame_ok hq rfl p1 p2 p3
   refine CG.ofExec (call:=oneC (.func g) p.2 (rngH T N ps as bd s.2.2).fresh (v,H')) (oneC_ok hG) hm (k:=2) ?_
   rw[qyy_]
   show goRF _ _ N f ps as bd T (.mark s.2.2.next::s.2.1) s.2.2.next (s.2.2.push (.marks true))=some y
   unfold goRF
   rw[hof,sel_true]
   have hc:callRF (oneC (.func g) p.2 (rngH T N ps as bd s.2.2).fresh (v,H')) f T (s.2.2.push (.marks true)).next ((s.2.2.push (.marks true)).push (.loop ⟨.ready,none,T,N,ps,as,bd,s.2.2.next⟩))=some (H'.back (rngH T N ps as bd s.2.2).low):=by
    unfold callRF
    rw[show (s.2.2.push (.marks true)).next=Nat.succ s.2.2.next from rfl,hp1,oc_some,hpg]
    show oc (oneC (.func g) p.2 (rngH T N ps as bd s.2.2).fresh (v,H') (.func g) p.2 (rngH T N ps as bd s.2.2).fresh) none _=_
    rw[oneC_hit,oc_some]
    rfl
   rw[hc,oc_some]
   have hy:leaveRF pendX T (.mark s.2.2.next::s.2.1) (Nat.succ s.2.2.next) (H'.back (rngH T N ps as bd s.2.2).low)=some y:=hy
   show leaveRF _ T (.mark s.2.2.next::s.2.1) (Nat.succ s.2.2.next) (H'.back (rngH T N ps as bd s.2.2).low)=some y
   unfold leaveRF at hy ⊢
   obtain⟨r,hr,hy⟩:=oS hy
   rw[hr,oc_some]
   cases hb:stBusy r.st with
   | true=>rw[hb] at hy; cases hy
   | false=>
    rw[hb,sel_false] at hy
    rw[sel_false]
    cases hpd:r.pend with
    | none=>rw[hpd] at hy; exact hy
    | some c=>rw[hpd,oc_some] at hy; rw[oc_some]; exact pendX_exec hy
  ·cases h
theorem loopW_ok {P:Program}{L:Tr LAns}{rnd:Option Nat}{N m:Nat}{b:Code}{f:Nat→XSt→XO}(hf:∀ k s x ps,f k s=some (x,ps)→AllP ps→CG P rnd N m b s (x.1,x.2.1)):∀ (j k:Nat) (s:XSt) (x:Ex×XSt×Nat) (ps:List Prop),loopW P L rnd N m b f j k s=some (x,ps)→AllP ps→LG P rnd N m b s (x.1,x.2.1)
 | 0,k,s,x,ps,h,hp=>by cases h
 | j+1,k,s,x,ps,h,hp=>by
  have h:oc (L.get k) (bindO (f (Nat.succ k) s) fun s k=>loopW P L rnd N m b f j k s) (cutL P rnd N m b k s)=some (x,ps):=h
  cases hl:L.get k with
  | some l=>
   rw[hl,oc_some] at h
   obtain⟨⟨s0,qs⟩,hw,h⟩:=oS h
   obtain⟨rfl,rfl⟩:=pI (oI h)
   exact LG.pre (qzj_ hw hp.2) hp.1
  | none=>
   rw[hl,oc_none] at h
   rcases bindO_eq h with⟨s1,q,qs,rs,g1,g2,rfl⟩ | ⟨hne,g1⟩
   ·obtain⟨p1,p2⟩:=AllP.append hp
    exact LG.step (hf _ _ _ _ g1 p1) (loopW_ok hf j q s1 x rs g2 p2)
   ·exact LG.done (hf _ _ _ _ g1 hp) hne
theorem q1t_ {P:Program}(hm:P.follows .mixedOrders=true){A:Tr Ans}{L:Tr LAns}{rnd:Option Nat}{N m:Nat}:∀ (n:Nat) (c:Code) (k:Nat) (s:XSt) (x:Ex×XSt×Nat) (ps:List Prop),execA P A L rnd N m n c k s=some (x,ps)→AllP ps→CG P rnd N m c s (x.1,x.2.1):=by
 intro n
 induction n with
 | zero=>intro c k s x ps h; cases h
 | succ n ih=>
  intro c k s x ps h hp
  have cut:∀ {c:Code} {l:LAns},cutO P rnd N m c k s l=some (x,ps)→CG P rnd N m c s (x.1,x.2.1):=fun {c l} h=>by
   obtain⟨⟨s0,qs⟩,hw,h⟩:=oS h
   obtain⟨rfl,rfl⟩:=pI (oI h)
   exact CG.pre (qzj_ hw hp.2) hp.1
  cases c with
  | skip=>obtain⟨rfl,rfl⟩:=pI (oI h); exact CG.refl P rnd N m s fun F n Q a w q=>wpIn_skip q
  | label l=>obtain⟨rfl,rfl⟩:=pI (oI h); exact CG.refl P rnd N m s fun F n Q a w q=>wpIn_label q
  | ret=>obtain⟨rfl,rfl⟩:=pI (oI h); exact CG.refl P rnd N m s fun F n Q a w q=>wpIn_ret q
  | exit i=>obtain⟨rfl,rfl⟩:=pI (oI h); exact CG.refl P rnd N m s fun F n Q a w q=>wpIn_exit q
  | goto l=>cases h
  | refuse y=>cases h
  | rangeFunc f ps' as bd=>
   rw[execA_range] at h
   exact rangeO_ok hm h hp
  | scope b=>
   rw[execA_scope] at h
   exact (ih _ _ _ _ _ h hp).scope
  | region id ops d=>
   rw[execA_region] at h
   obtain⟨⟨⟨T',H'⟩,qs⟩,hr,h⟩:=oS h
   obtain⟨rfl,rfl⟩:=pI (oI h)
   exact CG.region hm (evA_EvOK P A k) hr hp
  | loop b=>
   rw[execA_loop] at h
   cases hl:L.get k with
   | some l=>rw[hl] at h; exact cut h
   | none=>
    rw[hl,oc_none] at h
    rcases bindO_eq h with⟨s1,q,qs,rs,g1,g2,rfl⟩ | ⟨hne,g1⟩
    ·obtain⟨p1,p2⟩:=AllP.append hp
     exact (LG.step (ih b _ _ _ _ g1 p1) (loopW_ok (fun k s x ps h hp=>ih b k s x ps h hp) _ _ _ _ _ g2 p2)).cg
    ·exact (LG.done (ih b _ _ _ _ g1 hp) hne).cg
  | seq a b=>
   rw[execA_seq] at h
   cases hl:L.get k with
   | some l=>rw[hl] at h; exact cut h
   | none=>
    rw[hl,oc_none] at h
    rcases bindO_eq h with⟨s1,j,qs,rs,g1,g2,rfl⟩ | ⟨hne,g1⟩
    ·obtain⟨p1,p2⟩:=AllP.append hp
     exact (ih _ _ _ _ _ g1 p1).seq (ih _ _ _ _ _ g2 p2)
    ·exact (ih _ _ _ _ _ g1 hp).seqOut hne
  | cond c a b=>
   rw[execA_cond] at h
   cases hl:L.get k with
   | some l=>rw[hl] at h; exact cut h
   | none=>
    rw[hl,oc_none] at h
    obtain⟨hc,h⟩:=sel_none h
    cases ha:A.get k with
    | none=>
     rw[ha,oc_none] at h
     obtain⟨g,hg,h⟩:=oS h
     refine CG.cond hc (asB_eq hg) ?_
     cases g
     ·exact ih _ _ _ _ _ h hp
     ·exact ih _ _ _ _ _ h hp
    | some an=>
     rw[ha,oc_some] at h
     split at h
     ·rename_i g
      obtain⟨rs,hh,e'⟩:=que_ h
      subst e'
      refine CG.cond hc hp.1 ?_
      cases g
      ·exact ih _ _ _ _ _ hh hp.2
      ·exact ih _ _ _ _ _ hh hp.2
     ·cases h
  | block i b=>
   rw[execA_block] at h
   cases hl:L.get k with
   | some l=>rw[hl] at h; exact cut h
   | none=>
    rw[hl,oc_none] at h
    obtain⟨⟨⟨e,s1,j⟩,qs⟩,h1,h⟩:=oS h
    cases e with
    | normal=>
     obtain⟨rfl,rfl⟩:=pI (oI h)
     exact (ih _ _ _ _ _ h1 hp).block
    | ret=>
     obtain⟨rfl,rfl⟩:=pI (oI h)
     exact (ih _ _ _ _ _ h1 hp).block
    | exit q=>
     have hb:=fun p=>(ih _ _ _ _ _ h1 p).block (i:=i)
     rcases qa_ h with⟨hji,h⟩ | ⟨hji,h⟩
     ·obtain⟨rfl,rfl⟩:=pI (oI h)
      have:=hb hp
      simp only[hji,sel_true] at this
      exact this
     ·obtain⟨rfl,rfl⟩:=pI (oI h)
      have:=hb hp
      simp only[hji,sel_false] at this
      exact this
theorem InvS.start {n0:Bs}{N:Nat}{σ:Ren}{w:World}{s:XSt}{a:Act}(hT:TR σ N s.1 a.tmps)(hD:DR σ s.2.1 a.defers)(hr:HR n0 σ s.2.2 w)(m:Nat):InvS n0 N m σ w s a w:=⟨σ,hT,hD,hr,Step.refl _ _ _ _⟩
noncomputable def qx_ (P:Program)(f:Nat)(p:List Bool):Code:=oc (P.funcs[f]?) .skip fun fd=>oc fd.body .skip fun c=>oc (qws_ c p) .skip fun c=>c
noncomputable def fnOkB (P:Program)(f n:Nat):Bool:=oc (P.funcs[f]?) false fun fd=>oc fd.body false fun _=>Nat.ble n fd.ntmps && !(fd.name == "runtime.NumGoroutine")
noncomputable def fnN (P:Program)(f:Nat):Nat:=oc (P.funcs[f]?) 0 fun fd=>fd.ntmps
noncomputable def fnRes (P:Program)(f:Nat):List ResultVar:=oc (P.funcs[f]?) [] fun fd=>fd.results.toList
noncomputable def leaveA (P:Program)(f m:Nat)(x:Ex×XSt):VRes:=
 sel (exDone x.1) (oc (closeM x.2.2.1 x.2.2.2) none fun H=>oc (resL P x.2.1 H (fnRes P f)) none fun l=>some (wrapR l,⟨H.blocks,H.next,Nat.min H.low m⟩)) none
theorem fn_ok {P:Program}{f:FuncId}{args:List Value}{H H':AH}{v:Value}{x:Ex×XSt}(hf:fnOkB P f args.length=true)(h:CG P none (fnN P f) H.next (qx_ P f []) (layT args,[],H) x)(hl:leaveA P f H.next x=some (v,H')):Gv P (.func f) args H v H':=by
 unfold fnOkB at hf
 cases hfd:P.funcs[f]? with
 | none=>rw[hfd] at hf; cases hf
 | some fd=>
  rw[hfd,oc_some] at hf
  cases hc:fd.body with
  | none=>rw[hc] at hf; cases hf
  | some c=>
   rw[hc,oc_some] at hf
   simp only[bA,Bool.not_eq_true'] at hf
   have e1:qx_ P f []=c:=by unfold qx_; rw[hfd,oc_some,hc]; rfl
   have e2:fnN P f=fd.ntmps:=by unfold fnN; rw[hfd]; rfl
   have e3:fnRes P f=fd.results.toList:=by unfold fnRes; rw[hfd]; rfl
   rw[e1,e2] at h
   obtain⟨hd,hl⟩:=sel_none hl
   obtain⟨H2,hcl,hl⟩:=oS hl
   obtain⟨vs,hvs,hl⟩:=oS hl
   obtain⟨rfl,rfl⟩:=pI (oI hl)
   rw[e3] at hvs
   intro n0 σ w fn' args' hfn hargs hr
   cases hfn
   refine⟨⟨fd,hfd,hf.2,by rw[hc]; rfl⟩,fun n=>?_⟩
   have hN:=qd1_ hf.1
   refine callsIn_of_wp_marks hfd hc trivial ?_
   have hex:=h n0 Fence.wide n σ w { tmps:=args' ++ Array.replicate (fd.ntmps-args'.size) undef,defers:=[] } w ⟨none,rfl⟩ rfl (fun b t hb=>⟨hr.dom b t hb,hr.img b t.1 t.2.1 t.2.2 hb⟩) (fun b hb=>(hr.hol b hb).1) (InvS.start (q1m_ hargs hN) .nil hr _)
   refine wpIn_mono hex ?_
   rintro e a' w' ⟨rfl,σ',q1,q2,q3,q4⟩
   have hlow:Nat.min H2.low H.next≤Nat.min x.2.2.2.low H.next:=Nat.le_min.2 ⟨Nat.le_trans (Nat.min_le_left _ _) (qvp_ hcl),Nat.min_le_right _ _⟩
   have main:LeavesInM Fence.wide n P fd a'.tmps (RetOK n0 σ w (wrapR vs) ⟨H2.blocks,H2.next,Nat.min H2.low H.next⟩) a'.defers .returning w':=
    leaves_ok hcl q2 q1 q3 hvs fun v' w'' z1 z2 z3=>⟨v',σ',rfl,z1,⟨z2.base,z2.blk,z2.inj,z2.dom,z2.img,z2.hol,z2.frz⟩,(q4.lower hlow).trans (z3.lower (Nat.min_le_left _ _)) (Nat.le_refl _)⟩
   obtain⟨e,s⟩:=x
   cases e with
   | normal=>exact main
   | ret=>exact main
   | exit i=>cases hd
theorem law_ok {P:Program}{f:FuncId}{args args':List Value}{k:Nat}{B:Tr ABlk}{H':AH}(h:Gv P (.func f) args ⟨B,k,k⟩ (.bool true) H'){w:World}{n0:Bs}{σ:Ren}(hargs:VRs σ args args')(hr:HR n0 σ ⟨B,k,k⟩ w) :
  Calls P f ⟨args'⟩ w fun e w'=>e=.returned (.bool true)∧∃ σ',Step n0 σ w H'.low σ' w':=by
 obtain⟨_,hgo⟩:=h n0 σ w (.func f) ⟨args'⟩ (.func f) hargs hr
 refine (callsIn_wide (n:=0)).1 (CallsIn.mono (hgo 0) ?_)
 rintro e w' ⟨v',σ',rfl,h1,_,h3⟩
 cases h1
 exact⟨rfl,σ',h3⟩
end Go.Proofs.YthlikofobjhcoaaGreat.Ax
namespace Go.Proofs.YthlikofobjhcoaaGreat.Ax
open Go.RowKit
variable [Tabs]
noncomputable def sT (N:Nat)(l:List (Nat×Value)):Tr Value:=@List.rec (Nat×Value) (fun _=>Tr Value) (anyT N) (fun x _ ih=>ih.set x.1 x.2) l
noncomputable def sB (l:List (Nat×Option ABlk)):Tr ABlk:=@List.rec (Nat×Option ABlk) (fun _=>Tr ABlk) .nil (fun x _ ih=>oc x.2 ih fun y=>ih.set x.1 y) l
noncomputable def aT (l:List (Nat×Ans)):Tr Ans:=@List.rec (Nat×Ans) (fun _=>Tr Ans) .nil (fun x _ ih=>ih.set x.1 x.2) l
noncomputable def lT (l:List (Nat×LAns)):Tr LAns:=@List.rec (Nat×LAns) (fun _=>Tr LAns) .nil (fun x _ ih=>ih.set x.1 x.2) l
noncomputable def runC (P:Program)(A:Tr Ans)(L:Tr LAns)(rnd:Option Nat)(N m:Nat)(wk:WkS)(c:Code)(s:XSt):Option ((Ex×XSt)×List Prop):=
 oc (execA P A L rnd N m fuel c 0 s) none fun r=>oc (weakW N m wk r.1.2.1) none fun q=>some ((r.1.1,q.1),r.2++q.2)
theorem runC_ok {P:Program}(hm:P.follows .mixedOrders=true){A:Tr Ans}{L:Tr LAns}{rnd:Option Nat}{N m:Nat}{wk:WkS}{c:Code}{s:XSt}{x:Ex×XSt}{ps:List Prop}(h:runC P A L rnd N m wk c s=some (x,ps))(hp:AllP ps):CG P rnd N m c s x:=by
 obtain⟨⟨⟨e,s1,k⟩,qs⟩,h1,h⟩:=oS h
 obtain⟨⟨s2,rs⟩,h2,h⟩:=oS h
 obtain⟨rfl,rfl⟩:=pI (oI h)
 obtain⟨p1,p2⟩:=AllP.append hp
 exact (q1t_ hm _ _ _ _ _ _ h1 p1).post (qzj_ h2 p2)
noncomputable def runF (P:Program)(A:Tr Ans)(L:Tr LAns)(f:Nat)(wk:WkS)(args:List Value)(H:AH):Option ((Value×AH)×List Prop):=
 sel (fnOkB P f args.length) (oc (execA P A L none (fnN P f) H.next fuel (qx_ P f []) 0 (layT args,[],H)) none fun r=>oc (weakW (fnN P f) H.next wk r.1.2.1) none fun q=>oc (leaveA P f H.next (r.1.1,q.1)) none fun y=>some (y,r.2++q.2)) none
theorem runF_ok {P:Program}(hm:P.follows .mixedOrders=true){A:Tr Ans}{L:Tr LAns}{f:Nat}{wk:WkS}{args:List Value}{H H':AH}{v:Value}{ps:List Prop}(h:runF P A L f wk args H=some ((v,H'),ps))(hp:AllP ps):Gv P (.func f) args H v H':=by
 obtain⟨hf,h⟩:=sel_none h
 obtain⟨⟨⟨e,s1,k⟩,qs⟩,h1,h⟩:=oS h
 obtain⟨⟨s2,rs⟩,h2,h⟩:=oS h
 obtain⟨y,h3,h⟩:=oS h
 obtain⟨rfl,rfl⟩:=pI (oI h)
 obtain⟨p1,p2⟩:=AllP.append hp
 exact fn_ok hf ((q1t_ hm _ _ _ _ _ _ h1 p1).post (qzj_ h2 p2)) h3
noncomputable def rblk (P:Program)(f:Nat)(p:List Bool)(st:LoopState)(pend:Option Code)(l:List (Nat×Value))(df:Nat):ABlk:=
 match qx_ P f p with
 | .rangeFunc _ ps as bd=>.loop ⟨st,pend,sT (fnN P f) l,fnN P f,ps,as,bd,df⟩
 | _=>.marks false
noncomputable def runY (P:Program)(A1 A2:Tr Ans)(L1 L2:Tr LAns)(l:Nat)(wk:WkS)(args:List Value)(H:AH):Option ((Value×AH)×List Prop):=
 sel (Nat.blt l H.next) (oc (qwm_ H l) none fun r=>sel (Nat.beq args.length r.params.size) (oc (setPs r.N r.params.toList args r.T) none fun T=>oc (execA P A1 L1 (some l) r.N H.next fuel r.assign 0 (T,[],H)) none fun x=>
  sel (exNormal x.1.1) (oc (qwm_ x.1.2.1.2.2 l) none fun r2=>sel (stReady r2.st) (oc (execA P A2 L2 (some l) r.N H.next fuel r.body 0 (x.1.2.1.1,x.1.2.1.2.1,x.1.2.1.2.2.setL l r2 .busy r2.pend)) none fun y=>
   oc (weakW r.N H.next wk y.1.2.1) none fun q=>oc (endF l (y.1.1,q.1)) none fun z=>some ((z.1,⟨z.2.blocks,z.2.next,Nat.min z.2.low H.next⟩),x.2++(y.2++q.2))) none) none) none) none
theorem runY_ok {P:Program}(hm:P.follows .mixedOrders=true){A1 A2:Tr Ans}{L1 L2:Tr LAns}{l:Nat}{wk:WkS}{args:List Value}{H H':AH}{v:Value}{ps:List Prop}(h:runY P A1 A2 L1 L2 l wk args H=some ((v,H'),ps))(hp:AllP ps):Gv P (.yield l) args H v H':=by
 obtain⟨hln,h⟩:=sel_none h
 obtain⟨r,hlr,h⟩:=oS h
 obtain⟨hlen,h⟩:=sel_none h
 obtain⟨T,hT,h⟩:=oS h
 obtain⟨⟨x,xs⟩,hx,h⟩:=oS h
 obtain⟨hnx,h⟩:=sel_none h
 obtain⟨r2,hr2,h⟩:=oS h
 obtain⟨hst,h⟩:=sel_none h
 obtain⟨⟨y,ys⟩,hy,h⟩:=oS h
 obtain⟨⟨q,qs⟩,hq,h⟩:=oS h
 obtain⟨z,hz,h⟩:=oS h
 obtain⟨hvz,rfl⟩:=pI (oI h)
 obtain⟨rfl,rfl⟩:=pI hvz
 obtain⟨hp1,hp⟩:=AllP.append hp
 obtain⟨hp2,hp3⟩:=AllP.append hp
 have c1:=q1t_ hm _ _ _ _ _ _ hx hp1
 have c2:=(q1t_ hm _ _ _ _ _ _ hy hp2).post (qzj_ hq hp3)
 intro n0 σ w fn' args' hfn hargs hr
 cases hfn with
 | @yield l c hl=>
  obtain⟨q0,hq1,hq2,_,_⟩:=hr.loop hlr hl
  have hlen:=nB hlen
  have hsz:args'.size=q0.params.size:=by rw[hq2.params,←hlen]; have:=hargs.length; simpa using this.symm
  refine⟨q0.fn,(q0.params.zip args').foldl (fun ts (x:Tmp×Value)=>ts.setIfInBounds x.1 x.2) q0.tmps,q0.assign,q0.body,?_,fun n=>?_⟩
  ·simp[Instr.yield,Sem.run_bind,qnd_ hq1,hsz]
  ·have hTR:TR σ r.N T ((q0.params.zip args').foldl (fun ts (x:Tmp×Value)=>ts.setIfInBounds x.1 x.2) q0.tmps):=by
    have:=setPs_ok hT hargs hq2.tmps
    rw[←hq2.params] at this
    rwa [←Array.foldl_toList,Array.toList_zip]
   refine roundIn_of_wpIn trivial ?_
   have hF:WideF (Fence.wide.inRound c):=⟨some c,rfl⟩
   have hdom:∀ b t,σ b=some t→b<H.next∧t.1<w.heap.size:=fun b t hb=>⟨hr.dom b t hb,hr.img b t.1 t.2.1 t.2.2 hb⟩
   have hhol:∀ b,n0.X b→b<H.next:=fun b hb=>(hr.hol b hb).1
   have h1:=c1 n0 (Fence.wide.inRound c) n σ w { tmps:=(q0.params.zip args').foldl (fun ts (x:Tmp×Value)=>ts.setIfInBounds x.1 x.2) q0.tmps,defers:=[] } w hF ⟨c,rfl,hl⟩ hdom hhol (InvS.start hTR .nil hr _)
   rw[hq2.assign,hq2.body]
   refine wpIn_mono h1 ?_
   rintro e a₁ w₁ ⟨rfl,σ₁,q1,q2,q3,q4⟩
   obtain⟨ex,sx,kx⟩:=x
   cases ex with
   | exit i=>cases hnx
   | ret=>cases hnx
   | normal=>
    obtain⟨w₂,b1,b2,b3⟩:=begin_ok (P:=P) q3 hr2 (q4.ext _ _ hl) hst
    refine⟨w₂,b1,?_⟩
    have lm:Nat.min (sx.2.2.setL l r2 .busy r2.pend).low H.next≤Nat.min sx.2.2.low H.next:=Nat.le_min.2 ⟨Nat.le_trans (Nat.min_le_left _ _) (qu5_ _ _ _ _ _),Nat.min_le_right _ _⟩
    have inv2:InvS n0 r.N H.next σ w (sx.1,sx.2.1,sx.2.2.setL l r2 .busy r2.pend) a₁ w₂:=⟨σ₁,q1,q2,b2,q4.trans (b3.lower (Nat.min_le_left _ _)) lm⟩
    have h2:=c2 n0 (Fence.wide.inRound c) n σ w a₁ w₂ hF ⟨c,rfl,hl⟩ hdom hhol inv2
    refine wpIn_mono h2 ?_
    rintro e₂ a₂ w₃ ⟨rfl,σ₂,z1,z2,z3,z4⟩
    obtain⟨r3,hr3,hz⟩:=oS hz
    obtain⟨w₄,e1,e2,e3⟩:=end_ok (P:=P) z3 hr3 (z4.ext _ _ hl) (qo5_ y.1)
    obtain rfl:=oI hz
    have lz:Nat.min (q.2.2.setL l r3 (if (qo5_ y.1).isNone then .ready else .done) (qo5_ y.1)).low H.next≤Nat.min q.2.2.low H.next:=Nat.le_min.2 ⟨Nat.le_trans (Nat.min_le_left _ _) (qu5_ _ _ _ _ _),Nat.min_le_right _ _⟩
    have stF:Step n0 σ w (Nat.min (q.2.2.setL l r3 (if (qo5_ y.1).isNone then .ready else .done) (qo5_ y.1)).low H.next) σ₂ w₄:=z4.trans (e3.lower (Nat.min_le_left _ _)) lz
    have fin:RetOK n0 σ w (.bool (qo5_ y.1).isNone) ⟨(q.2.2.setL l r3 (if (qo5_ y.1).isNone then .ready else .done) (qo5_ y.1)).blocks,(q.2.2.setL l r3 (if (qo5_ y.1).isNone then .ready else .done) (qo5_ y.1)).next,Nat.min (q.2.2.setL l r3 (if (qo5_ y.1).isNone then .ready else .done) (qo5_ y.1)).low H.next⟩ (.returned (.bool (qo5_ y.1).isNone)) w₄:=
     ⟨_,σ₂,rfl,.bool _,e2.congr (fun _=>rfl) rfl,stF⟩
    obtain⟨ey,sy⟩:=y
    cases ey with
    | normal=>exact⟨_,w₄,e1,fin⟩
    | ret=>exact⟨_,w₄,e1,fin⟩
    | exit i=>exact⟨_,w₄,e1,fin⟩
def iterM {α β:Type}(body:α→Option (α ⊕ β)):Nat→α→Option β
 | 0,_=>none
 | n+1,s=>(body s).bind fun o=>match o with
  | .inl s=>iterM body n s
  | .inr r=>some r
theorem qbe_ {α β:Type}(body:α→Option (α ⊕ β))(n:Nat)(s:α):iterM body (n+1) s=(body s).bind fun o=>match o with
  | .inl s=>iterM body n s
  | .inr r=>some r:=rfl
theorem LG.iter {P:Program}{rnd:Option Nat}{N m:Nat}{b:Code}{α β:Type}{body:α→Option (α ⊕ β)}{S:α→XSt}{X:β→Ex×XSt}(h1:∀ s s',body s=some (.inl s')→CG P rnd N m b (S s) (.normal,S s'))(h2:∀ s r,body s=some (.inr r)→CG P rnd N m b (S s) (X r))(hX:∀ r,(X r).1 ≠ .normal) :
  ∀ (n:Nat) (s:α) (r:β),iterM body n s=some r→LG P rnd N m b (S s) (X r)
 | 0,s,r,h=>by cases h
 | n+1,s,r,h=>by
  rw[qbe_] at h
  cases hb:body s with
  | none=>rw[hb] at h; cases h
  | some o=>
   rw[hb] at h
   cases o with
   | inl s'=>exact LG.step (h1 s s' hb) (LG.iter h1 h2 hX n s' r h)
   | inr r'=>
    obtain rfl:=oI h
    exact LG.done (h2 s r' hb) (hX r')
theorem CG.iter {P:Program}{rnd:Option Nat}{N m:Nat}{c b:Code}(hc:c=.loop b){α β:Type}{body:α→Option (α ⊕ β)}{S:α→XSt}{X:β→Ex×XSt}(h1:∀ s s',body s=some (.inl s')→CG P rnd N m b (S s) (.normal,S s'))(h2:∀ s r,body s=some (.inr r)→CG P rnd N m b (S s) (X r))(hX:∀ r,(X r).1 ≠ .normal)
  {n:Nat} {s:α} {r:β} (h:iterM body n s=some r):CG P rnd N m c (S s) (X r):=by
 subst hc
 exact (LG.iter h1 h2 hX n s r h).cg
theorem Gv.forget {P:Program}{f:Nat}{args:List Value}{H H1:AH}{v:Value}(h:Gv P (.func f) args H v H1)(hv:flat v=true):Gv P (.func f) args H v ⟨.nil,H.next,Nat.min H1.low H.next⟩:=by
 intro n0 σ w fn' args' hfn hargs hr
 cases hfn
 obtain⟨g1,g2⟩:=h n0 σ w (.func f) args' (.func f) hargs hr
 refine⟨g1,fun n=>CallsIn.mono (g2 n) ?_⟩
 rintro e w' ⟨v',σ',rfl,q1,q2,q3⟩
 have:=qfs_ hv q1
 subst this
 refine⟨_,σ,rfl,qua_ hv σ,⟨q2.base,fun b x hb=>(by cases hb),fun b₁ b₂ x₁ x₂ c d₁ m₁ d₂ m₂ h1=>(by cases h1),hr.dom,fun b c d m hb=>Nat.lt_of_lt_of_le (hr.img b c d m hb) q3.below.size,hr.hol,hr.frz.mono (fun _ _ _ h=>h) q3.below.size fun c hc hn=>⟨(q3.keep c hc (.inr fun b d m hs=>absurd rfl (hn b _ hs))).1,hn⟩⟩,⟨.refl σ,q3.below,fun c hc hq=>?_,fun _ _ _ _ _ h=>h⟩⟩
 have:=q3.keep c hc (hq.imp id fun hq b d m hs=>Nat.lt_of_lt_of_le (hq b d m hs) (Nat.min_le_left _ _))
 exact⟨this.1,fun _ _ _ hs=>hs⟩
theorem Gv.run {P:Program}(hm:P.follows .mixedOrders=true){f:FuncId}{args:List Value}{H H':AH}{v:Value}(h:callP P (.func f) args H=some (v,H')):Gv P (.func f) args H v H':=
 fun n0 σ w fn' args' hfn hargs hr=>callF_ok (qnm_ hm n0.n.n) (qky_ P) 100000 n0.n.Q n0.X _ _ _ _ _ h σ w fn' args' hfn hargs hr
abbrev w64 (x:Int):Int:=IntKind.i64.wrap x
theorem vbT {c:Prop}[Decidable c](h:c):Value.bool (decide c)=Value.bool true:=by rw[decide_eq_true h]
theorem vbF {c:Prop}[Decidable c](h:¬ c):Value.bool (decide c)=Value.bool false:=by rw[decide_eq_false h]
theorem veT {a b:Int}(h:a=b):Value.bool (a == b)=Value.bool true:=by rw[beq_iff_eq.2 h]
theorem veF {a b:Int}(h:¬ a=b):Value.bool (a == b)=Value.bool false:=by rw[beq_eq_false_iff_ne.2 h]
theorem vnT {a b:Int}(h:¬ a=b):Value.bool (a != b)=Value.bool true:=by simp[h]
theorem vnF {a b:Int}(h:a=b):Value.bool (a != b)=Value.bool false:=by simp[h]
theorem vB {a b:Bool}(h:a=b):Value.bool a=Value.bool b:=by rw[h]
theorem vBn {a b:Bool}(h:a=!b):Value.bool (!a)=Value.bool b:=by rw[h]; simp
theorem setF_same {α:Type}(x y:Option α):∀ (f:Nat) (t:Tr α) (n:Nat),n<f→Tr.setF f (Tr.setF f t n x) n y=Tr.setF f t n y:=by
 intro f
 induction f with
 | zero=>intro t n h; omega
 | succ f ih=>
  intro t n h
  rw[Tr.setF_succ,Tr.setF_succ,Tr.setF_succ]
  by_cases h0:n=0
  ·subst h0; simp[trL,trR]
  ·rw[if_neg h0,if_neg h0,if_neg h0]
   by_cases h1:n % 2=1
   ·rw[if_pos h1,if_pos h1,if_pos h1]
    simp only[trL,trV,trR]
    rw[ih _ _ (by omega)]
   ·rw[if_neg h1,if_neg h1,if_neg h1]
    simp only[trL,trV,trR]
    rw[ih _ _ (by omega)]
theorem qx7_ {α:Type}(x:Option α):∀ (f g:Nat) (t:Tr α) (n:Nat),n<f→n<g→Tr.setF f t n x=Tr.setF g t n x:=by
 intro f
 induction f with
 | zero=>intro g t n h; omega
 | succ f ih=>
  intro g t n h hg
  cases g with
  | zero=>omega
  | succ g=>
   rw[Tr.setF_succ,Tr.setF_succ]
   by_cases h0:n=0
   ·rw[if_pos h0,if_pos h0]
   ·rw[if_neg h0,if_neg h0]
    by_cases h1:n % 2=1
    ·rw[if_pos h1,if_pos h1,ih g _ _ (by omega) (by omega)]
    ·rw[if_neg h1,if_neg h1,ih g _ _ (by omega) (by omega)]
theorem setF_comm {α:Type}(x y:Option α):∀ (f:Nat) (t:Tr α) (n m:Nat),n<f→m<f→n ≠ m→Tr.setF f (Tr.setF f t n x) m y=Tr.setF f (Tr.setF f t m y) n x:=by
 intro f
 induction f with
 | zero=>intro t n m h; omega
 | succ f ih=>
  intro t n m hn hm hne
  rw[Tr.setF_succ f t n,Tr.setF_succ f t m]
  by_cases n0:n=0
  ·have m0:m ≠ 0:=by omega
   rw[if_pos n0,if_neg m0]
   by_cases m1:m % 2=1
   ·rw[if_pos m1,Tr.setF_succ,Tr.setF_succ,if_neg m0,if_pos m1,if_pos n0]; rfl
   ·rw[if_neg m1,Tr.setF_succ,Tr.setF_succ,if_neg m0,if_neg m1,if_pos n0]; rfl
  ·rw[if_neg n0]
   by_cases m0:m=0
   ·rw[if_pos m0]
    by_cases n1:n % 2=1
    ·rw[if_pos n1,Tr.setF_succ,Tr.setF_succ,if_pos m0,if_neg n0,if_pos n1]; rfl
    ·rw[if_neg n1,Tr.setF_succ,Tr.setF_succ,if_pos m0,if_neg n0,if_neg n1]; rfl
   ·rw[if_neg m0]
    by_cases n1:n % 2=1
    ·by_cases m1:m % 2=1
     ·rw[if_pos n1,if_pos m1,Tr.setF_succ,Tr.setF_succ,if_neg m0,if_pos m1,if_neg n0,if_pos n1]
      simp only[trL,trV,trR]
      rw[ih _ _ _ (by omega) (by omega) (by omega)]
     ·rw[if_pos n1,if_neg m1,Tr.setF_succ,Tr.setF_succ,if_neg m0,if_neg m1,if_neg n0,if_pos n1]; rfl
    ·by_cases m1:m % 2=1
     ·rw[if_neg n1,if_pos m1,Tr.setF_succ,Tr.setF_succ,if_neg m0,if_pos m1,if_neg n0,if_neg n1]; rfl
     ·rw[if_neg n1,if_neg m1,Tr.setF_succ,Tr.setF_succ,if_neg m0,if_neg m1,if_neg n0,if_neg n1]
      simp only[trL,trV,trR]
      rw[ih _ _ _ (by omega) (by omega) (by omega)]
theorem set_same {α:Type}(t:Tr α)(n:Nat)(x y:α):(t.set n x).set n y=t.set n y:=setF_same _ _ _ t n (Nat.lt_succ_self n)
theorem set_comm {α:Type}(t:Tr α){n m:Nat}(h:n ≠ m)(x y:α):(t.set n x).set m y=(t.set m y).set n x:=by
 show Tr.setF (m+1) (Tr.setF (n+1) t n (some x)) m (some y)=Tr.setF (n+1) (Tr.setF (m+1) t m (some y)) n (some x)
 rw[qx7_ _ (m+1) (n+m+1) _ m (by omega) (by omega),qx7_ _ (n+1) (n+m+1) t n (by omega) (by omega),qx7_ _ (n+1) (n+m+1) _ n (by omega) (by omega),qx7_ _ (m+1) (n+m+1) t m (by omega) (by omega)]
 exact setF_comm _ _ _ t n m (by omega) (by omega) h
theorem q00_ {α:Type}(v:α):∀ (l:List α) (i j:Nat) (t:Tr α),i<j→(layL l j t).set i v=layL l j (t.set i v)
 | [],i,j,t,h=>rfl
 | a::l,i,j,t,h=>by
  rw[qve_,qve_,q00_ v l i (j+1) _ (by omega),set_comm t (show j ≠ i by omega)]
theorem layL_set {α:Type}(v:α):∀ (l:List α) (k i:Nat) (t:Tr α),k<l.length→(layL l i t).set (i+k) v=layL (l.set k v) i t
 | [],k,i,t,h=>by simp at h
 | a::l,0,i,t,h=>by
  show (layL l (i+1) (t.set i a)).set i v=layL l (i+1) (t.set i v)
  rw[q00_ v l i (i+1) _ (by omega),set_same]
 | a::l,k+1,i,t,h=>by
  rw[qve_,List.set_cons_succ,qve_,show i+(k+1)=i+1+k from by omega]
  exact layL_set v l k (i+1) _ (by simpa using h)
theorem layT_set {α:Type}(v:α)(l:List α)(k:Nat)(h:k<l.length):(layT l).set k v=layT (l.set k v):=by
 have:=layL_set v l k 0 .nil h
 rwa [Nat.zero_add] at this
theorem qww_ {α:Type}{c:Tr α}:∀ (n i:Nat) (l:List α),l.length=n→(∀ j,j<n→c.get (i+j)=l[j]?)→rdT c n i=some l
 | 0,i,l,h,_=>by obtain rfl:=List.length_eq_zero_iff.1 h; rfl
 | n+1,i,[],h,_=>by simp at h
 | n+1,i,v::l,h,hj=>by
  rw[rdT_succ]
  have h0:=hj 0 (by omega)
  simp only[Nat.add_zero,List.getElem?_cons_zero] at h0
  rw[h0,oc_some,qww_ n (i+1) l (by simpa using h) fun j hlt=>?_,oc_some]
  have:=hj (j+1) (by omega)
  rw[List.getElem?_cons_succ] at this
  rw[←this]; congr 1; omega
theorem rdT_layT {α:Type}(l:List α):rdT (layT l) l.length 0=some l:=qww_ _ _ _ rfl fun j _=>by rw[qfu_,Nat.zero_add]
theorem rdT_layT1 {α:Type}(l:List α)(n:Nat)(h:n=l.length):rdT (layT l) (Nat.mul n 1) 0=some l:=by
 subst h
 rw[show Nat.mul l.length 1=l.length from Nat.mul_one _]; exact rdT_layT l
def iv (L:List Int):List Value:=L.map (Value.int .i64)
theorem qx8_ (L:List Int):(iv L).length=L.length:=by simp[iv]
theorem iv_ld (L:List Int)(i:Nat)(h:i<L.length):(layT (iv L)).get i=some (.int .i64 (L.getD i 0)):=by
 rw[qfu_]; simp[iv,h]
theorem iv_st (L:List Int)(i:Nat)(x:Int)(h:i<L.length):∃ old,rdT (layT (iv L)) 1 i=some old∧layL [Value.int .i64 x] i (layT (iv L))=layT (iv (L.set i x)):=by
 refine⟨[.int .i64 (L.getD i 0)],qww_ _ _ _ rfl fun j hj=>?_,?_⟩
 ·obtain rfl:j=0:=by omega
  rw[Nat.add_zero,iv_ld L i h]; rfl
 ·show (layT (iv L)).set i (.int .i64 x)=_
  rw[layT_set _ _ _ (by rw[qx8_]; exact h)]
  simp[iv,List.map_set]
theorem iv_rd (L:List Int):rdT (layT (iv L)) (Nat.mul L.length 1) 0=some (iv L):=rdT_layT1 _ _ (qx8_ L).symm
theorem iv_cells (L:List Int):qbn_ (iv L)=true:=by
 induction L with
 | nil=>rfl
 | cons a l ih=>exact ih
theorem qd_ (L:List Int)(e:TypeId):FlatB (.cells (layT (iv L)) e):=by
 intro i v h
 rw[qfu_] at h
 simp only[iv,List.getElem?_map,Option.map_eq_some_iff] at h
 obtain⟨a,_,rfl⟩:=h
 rfl
theorem ql8_ {n b:Nat}(h:n*b≤140737488355328)(h2:n≤9223372036854775807):fits n b=true:=by
 unfold fits
 rw[Nat.ble_eq_true_of_le (show Nat.mul n b≤_ from h),Nat.ble_eq_true_of_le h2]; rfl
theorem ixS {P:Program}{t e:TypeId}{b n k es:Nat}{kd:IntKind}{i:Int}(he:elemB P t=some e)(hs:sizeB P e=some es)(hz:0≤i)(hn:i<(n:Int)):qdt_ P t (.slice (some ⟨b,0,none⟩) n k) (.int kd i) Ax.h0=some (.pointer (some ⟨b,i.toNat*es,none⟩),Ax.h0):=by
 obtain⟨j,rfl⟩:=Int.eq_ofNat_of_zero_le hz
 have hj:Nat.blt j n=true:=by simp[Nat.blt_eq]; omega
 unfold qdt_
 rw[show isAddr (.slice (some ⟨b,0,none⟩) n k)=false from rfl,sel_false]
 unfold qfl_
 rw[show qjp_ (.slice (some ⟨b,0,none⟩) n k)=some (b,0,n,k) from rfl,oc_some]
 have:idx (.int kd (.ofNat j)) n=some j:=by show (match Nat.blt j n with | true=>some j | false=>none)=_; rw[hj]
 show oc (idx (.int kd (.ofNat j)) n) none _=_
 rw[this,oc_some,he,oc_some,hs,oc_some]
 simp
theorem ixS1 {P:Program}{t e:TypeId}{b n k:Nat}{kd:IntKind}{i:Int}(he:elemB P t=some e)(hs:sizeB P e=some 1)(h:0≤i∧i<(n:Int)):qdt_ P t (.slice (some ⟨b,0,none⟩) n k) (.int kd i) Ax.h0=some (.pointer (some ⟨b,i.toNat,none⟩),Ax.h0):=by
 have:=ixS (b:=b) (k:=k) (kd:=kd) he hs h.1 h.2
 rwa [Nat.mul_one] at this
theorem qw_ {i:Int}{n:Nat}(h:0≤i∧i<(n:Int)):i.toNat<n:=by omega
theorem pureS_bind {α β:Type}(P:Program)(f:α→Sem β):∀ (s:Sem α),pureS P (s >>= f)=oc (pureS P s) none fun a=>pureS P (f a):=by
 intro s
 induction s with
 | pure x=>rfl
 | program k ih=>exact ih P
 | mark m k ih=>exact ih
 | _=>rfl
def slN (L:List Int)(b:Nat):Value:=
 match L with
 | []=>.slice none 0 0
 | a::l=>.slice (some ⟨b,0,none⟩) (a::l).length (Nat.add big 1)
noncomputable def nblk (L:List Int)(e:TypeId):Option ABlk:=
 match L with
 | []=>none
 | a::l=>some (.cells (layT (iv (a::l))) e)
end Go.Proofs.YthlikofobjhcoaaGreat.Ax
namespace Go.Proofs.YthlikofobjhcoaaGreat.Ax
open Go.RowKit
variable [Tabs]
theorem Gv.ofTrueR {P:Program}(hm:P.follows .mixedOrders=true){ql:List (Nat×Nat)}(hq:QuietsOK P ql){K:List SK}(hK:SKsOK P K){l:List Entry}(hl:AllOK P l){m:List LEntry}(hL:AllLOK P m){f:FuncId}(h:isTrue (callR P ql K l m (.func f) [] Ax.h0)=true):Gv P (.func f) [] Ax.h0 (.bool true) Ax.h0:=by
 obtain⟨M,hM⟩:=hL.all
 unfold isTrue at h
 split at h
 ·rename_i H' hc
  have hg:Gv P (.func f) [] Ax.h0 (.bool true) H':=fun n0 σ w fn' args' hfn hargs hr=>
   qx5_ (qnm_ hm n0.n.n) (qky_ P) hq hK (q0s_ hl) (qu6_ hM) 100000 n0.n.Q n0.X _ _ _ _ _ hc σ w fn' args' hfn hargs hr
  have:=hg.forget rfl
  have e:(⟨.nil,Ax.h0.next,Nat.min H'.low Ax.h0.next⟩:AH)=Ax.h0:=by
   show AH.mk .nil 0 (min H'.low 0)=_
   rw[Nat.min_zero]; rfl
  rw[e] at this
  exact this
 ·cases h
end Go.Proofs.YthlikofobjhcoaaGreat.Ax
namespace Go.Proofs.YthlikofobjhcoaaGreat.Ax
open Go.RowKit
theorem hr_nil (T T':Tabs){n0:Bs}{σ:Ren}{z:Nat→Nat→Nat→Prop}{w:World}(hr:@HR T n0 σ Ax.h0 w)(hb:@TabsOK T' n0.n.n w)(hf:@FrzOK T' ⟨σ.f,z⟩ w):@HR T' n0 ⟨σ.f,z⟩ Ax.h0 w:=
 @HR.mk T' n0 ⟨σ.f,z⟩ Ax.h0 w ⟨(@HR.base T _ _ _ _ hr).1,(@HR.base T _ _ _ _ hr).2.1,hb⟩ (fun b x h=>(by cases h)) (fun b₁ b₂ x₁ x₂ c d₁ m₁ d₂ m₂ h1=>(by cases h1)) (fun b t h=>@HR.dom T _ _ _ _ hr b t h) (fun b c d m h=>@HR.img T _ _ _ _ hr b c d m h) (fun b h=>@HR.hol T _ _ _ _ hr b h) hf
theorem Gv.other (T T':Tabs){P:Program}{f:FuncId}(ht:∀ n w,@TabsOK T n w)(h:@Gv T P (.func f) [] Ax.h0 (.bool true) Ax.h0):@Gv T' P (.func f) [] Ax.h0 (.bool true) Ax.h0:=by
 intro n0 σ w fn' args' hfn hargs hr
 cases hfn
 have ea:args'=#[]:=by
  cases args' with
  | mk l=>cases hargs; rfl
 subst ea
 obtain⟨g1,g2⟩:=h n0 ⟨σ.f,fun _ _ _=>False⟩ w (.func f) #[] (.func f) (@VRs.nil T _) (hr_nil T' T hr (ht _ _) (fun j c d h=>h.elim))
 refine⟨g1,fun n=>CallsIn.mono (g2 n) ?_⟩
 rintro e w' ⟨v',σ',rfl,q1,q2,q3⟩
 cases q1
 have hz:@FrzOK T' ⟨σ'.f,σ.z⟩ w':=@FrzOK.mono T' σ ⟨σ'.f,σ.z⟩ w w' (@HR.frz T' _ _ _ _ hr) (fun _ _ _ h=>h) q3.below.size (fun c hc hn=>by
  obtain⟨h1,h2⟩:=q3.keep c hc (.inr fun b d m hs=>absurd rfl (hn b _ hs))
  exact⟨h1,fun b t hb e=>by
   obtain⟨c',d,m⟩:=t
   obtain rfl:c'=c:=e
   exact hn b _ (h2 b d m hb) rfl⟩) (fun _ _ _ h=>h)
 exact⟨_,⟨σ'.f,σ.z⟩,rfl,@VR.bool T' _ true,hr_nil T T' q2 ((@HR.base T' _ _ _ _ hr).2.2.calm q3.below.block) hz,
  ⟨⟨fun b t hb=>q3.ext b t hb,fun _ _ _ h=>h⟩,q3.below,fun c hc hq=>q3.keep c hc hq,fun _ _ _ _ _ h=>h⟩⟩
abbrev minB (a b:Int):Int:=if b<a then b else a
abbrev maxB (a b:Int):Int:=if b > a then b else a
theorem remI {P:Program}[T:Tabs]{t:TypeId}{ox oy:Operand}{a b:Int}(h:¬ b=0):opBin P .rem t ox oy (.int .i64 a) (.int .i64 b) Ax.h0=some (.int .i64 (a.tmod b),Ax.h0):=by
 show opGen0 P .rem t ox oy (.int .i64 a) (.int .i64 b) Ax.h0=_
 unfold opGen0 opPure2
 rw[show (plain (Value.int .i64 a)&&plain (Value.int .i64 b))=true from rfl,sel_true]
 unfold qwj_
 rw[pureS_bind,show pureS P (eqGuard .rem t ox oy (.int .i64 a) (.int .i64 b))=some () from rfl,oc_some]
 show oc (pureS P (Op.intDiv .rem .i64 a b)) none _=_
 unfold Op.intDiv
 rw[if_neg h]
 rfl
end Go.Proofs.YthlikofobjhcoaaGreat.Ax
namespace Go.Proofs.YthlikofobjhcoaaGreat.Ax
open Go.RowKit
variable [Tabs]
def rows {α:Type}(f:α→List Value)(L:List α):List Value:=L.flatMap f
structure RowF {α:Type} (f:α→List Value) (k:Nat):Prop where
 len:∀ a,(f a).length=k
 flat:∀ a,∀ v∈f a,stayV v=true
 cell:∀ a,qbn_ (f a)=true
theorem qk0_ {α:Type}{f:α→List Value}{k:Nat}(hf:RowF f k):∀ L:List α,(rows f L).length=L.length*k
 | []=>by simp[rows]
 | a::L=>by
  have:=qk0_ hf L
  simp only[rows,List.flatMap_cons,List.length_append,List.length_cons] at this ⊢
  rw[hf.len,this,Nat.succ_mul,Nat.add_comm]
theorem qzk_ {α:Type}{f:α→List Value}{k:Nat}(hf:RowF f k)(d:α):∀ (L:List α) (i j:Nat),i<L.length→j<k→(rows f L)[i*k+j]?=(f (L.getD i d))[j]?
 | [],i,j,h,_=>absurd h (Nat.not_lt_zero _)
 | a::L,0,j,_,hj=>by
  simp only[rows,List.flatMap_cons,Nat.zero_mul,Nat.zero_add]
  rw[List.getElem?_append_left (by rw[hf.len]; exact hj)]; rfl
 | a::L,i+1,j,h,hj=>by
  have ih:=qzk_ hf d L i j (by simpa using h) hj
  simp only[rows,List.flatMap_cons] at ih ⊢
  rw[List.getElem?_append_right (by rw[hf.len,Nat.succ_mul]; omega),hf.len,show (i+1)*k+j-k=i*k+j from by rw[Nat.succ_mul]; omega,ih]
  rfl
theorem rows_ld {α:Type}{f:α→List Value}{k:Nat}(hf:RowF f k)(d:α){L:List α}{i j:Nat}{v:Value}(off:Nat)(ho:off=i*k+j)(h:i<L.length)(hj:j<k)(hv:(f (L.getD i d))[j]?=some v):(layT (rows f L)).get off=some v:=by
 subst ho
 rw[qfu_,qzk_ hf d L i j h hj,hv]
theorem rows_rdp {α:Type}{f:α→List Value}{k:Nat}(hf:RowF f k)(d:α){L:List α}{i j n:Nat}{l:List Value}(off:Nat)(ho:off=i*k+j)(h:i<L.length)(hj:j+n≤k)(hl:((f (L.getD i d)).drop j).take n=l):rdT (layT (rows f L)) n off=some l:=by
 subst ho hl
 have hlen:=hf.len (L.getD i d)
 refine qww_ _ _ _ (by rw[List.length_take,List.length_drop,hlen]; omega) fun q hq=>?_
 rw[qfu_,Nat.add_assoc,qzk_ hf d L i (j+q) h (by omega),List.getElem?_take_of_lt hq,List.getElem?_drop]
theorem rows_rd {α:Type}{f:α→List Value}{k:Nat}(hf:RowF f k)(L:List α)(n:Nat)(hn:n=L.length):rdT (layT (rows f L)) (Nat.mul n k) 0=some (rows f L):=by
 subst hn
 rw[show Nat.mul L.length k=(rows f L).length from (qk0_ hf L).symm]; exact rdT_layT _
theorem qlg_ {α:Type}{f:α→List Value}{k:Nat}(hf:RowF f k):∀ L:List α,qbn_ (rows f L)=true
 | []=>rfl
 | a::L=>by
  have happ:∀ (l m:List Value),qbn_ l=true→qbn_ m=true→qbn_ (l++m)=true:=by
   intro l m h1 h2
   induction l with
   | nil=>exact h2
   | cons x l ih=>
    simp only[qbn_,bA,List.cons_append] at h1 ⊢
    exact⟨h1.1,ih h1.2⟩
  simp only[rows,List.flatMap_cons]
  exact happ _ _ (hf.cell a) (qlg_ hf L)
theorem rows_mem {α:Type}{f:α→List Value}{L:List α}{v:Value}(h:v∈rows f L):∃ a,v∈f a:=by
 obtain⟨a,_,h⟩:=List.mem_flatMap.1 h
 exact⟨a,h⟩
theorem qb_ {α:Type}{f:α→List Value}{k:Nat}(hf:RowF f k)(L:List α)(e:TypeId):FlatB (.cells (layT (rows f L)) e):=by
 intro i v h
 rw[qfu_] at h
 obtain⟨a,ha⟩:=rows_mem (List.mem_of_getElem? h)
 exact hf.flat a v ha
theorem qu9_ {α:Type}(f:α→List Value)(L K:List α):rows f L++rows f K=rows f (L++K):=by simp[rows]
theorem qxd_ {α:Type}{f:α→List Value}{k:Nat}(hf:RowF f k)(d:α){L:List α}{i j:Nat}{l:List Value}(x:α)(off:Nat)(ho:off=i*k+j)(h:i<L.length)(hj:j+l.length≤k)
  (hx:f x=(f (L.getD i d)).take j++l++(f (L.getD i d)).drop (j+l.length)):∃ old,rdT (layT (rows f L)) l.length off=some old∧layL l off (layT (rows f L))=layT (rows f (L.set i x)):=by
 refine⟨_,rows_rdp hf d off ho h hj rfl,?_⟩
 subst ho
 have hlen:=qk0_ hf L
 have key:∀ (l:List Value) (q:Nat) (t:List Value),q+l.length≤t.length→layL l q (layT t)=layT (t.take q++l++t.drop (q+l.length)):=by
  intro l
  induction l with
  | nil=>intro q t ht; show layT t=_; simp
  | cons v l ih=>
   intro q t ht
   have e1:(layT t).set q v=layT (t.set q v):=layT_set v t q (by simp at ht; omega)
   show layL l (q+1) ((layT t).set q v)=_
   rw[e1,ih (q+1) (t.set q v) (by simp at ht ⊢; omega)]
   congr 1
   simp only[List.length_cons] at ht
   have hq:q<t.length:=by omega
   rw[List.take_add_one,List.getElem?_set_self hq,List.take_set_of_le (Nat.le_refl _),List.drop_set_of_lt (by omega)]
   simp[Nat.add_comm,Nat.add_left_comm]
 rw[key l (i*k+j) (rows f L) (by
  rw[hlen]
  have:i*k+k≤L.length*k:=by rw[←Nat.succ_mul]; exact Nat.mul_le_mul_right k h
  omega)]
 congr 1
 have hx':=hx
 clear key
 have hsp:∀ (L:List α) (i:Nat),i<L.length→rows f L=rows f (L.take i)++f (L.getD i d)++rows f (L.drop (i+1)):=by
  intro L i hi
  have e:L=L.take i++L.getD i d::L.drop (i+1):=by
   have:L.getD i d=L[i]:=by simp[List.getD_eq_getElem?_getD,hi]
   rw[this,←List.drop_eq_getElem_cons hi,List.take_append_drop]
  conv=>lhs; rw[e]
  simp[rows]
 have h1:(rows f (L.take i)).length=i*k:=by rw[qk0_ hf,List.length_take,Nat.min_eq_left (by omega)]
 have h2:=hf.len (L.getD i d)
 rw[hsp L i h,List.set_eq_take_append_cons_drop,if_pos h]
 simp only[rows,List.flatMap_append,List.flatMap_cons] at h1 ⊢
 rw[hx]
 generalize (L.take i).flatMap f=A at h1 ⊢
 generalize (L.drop (i+1)).flatMap f=B
 generalize f (L.getD i d)=M at h2 ⊢
 rw[←h1]
 rw[List.append_assoc A M B,List.take_append,List.take_of_length_le (by omega:A.length≤A.length+j),List.drop_append,List.drop_of_length_le (by omega:A.length≤A.length+j+l.length)]
 rw[show A.length+j-A.length=j from by omega,show A.length+j+l.length-A.length=j+l.length from by omega,List.take_append_of_le_length (by omega),List.drop_append_of_le_length (by omega)]
 simp
def slR {α:Type}(L:List α)(b sz:Nat):Value:=
 match L with
 | []=>.slice none 0 0
 | a::l=>.slice (some ⟨b,0,none⟩) (a::l).length (Nat.add big sz)
noncomputable def nblkR {α:Type}(f:α→List Value)(L:List α)(e:TypeId):Option ABlk:=
 match L with
 | []=>none
 | a::l=>some (.cells (layT (rows f (a::l))) e)
theorem qwx_ {l:List Value}:∀ (n o:Nat) (r:List Value),r.length=n→(∀ j,j<n→l[o+j]?=r[j]?)→rdL l n o=some r
 | 0,o,r,h,_=>by
  obtain rfl:=List.length_eq_zero_iff.1 h; rfl
 | n+1,o,[],h,_=>by cases h
 | n+1,o,v::r,h,hg=>by
  show oc (l[o]?) none _=_
  have h0:=hg 0 (by omega)
  rw[Nat.add_zero] at h0
  rw[h0]
  show oc (rdL l n (o+1)) none _=_
  rw[qwx_ n (o+1) r (by simpa using h) fun j hj=>by
   have:=hg (j+1) (by omega)
   rw[show o+1+j=o+(j+1) from by omega,this]; rfl]
  rfl
theorem rdL_iv (L:List Int)(n:Nat)(hn:n=L.length):rdL (iv L) (Nat.mul n 1) 0=some (iv L):=by
 subst hn
 exact qwx_ _ _ _ (by rw[qx8_]; exact (Nat.mul_one _).symm) fun j _=>by rw[Nat.zero_add]
theorem slRow {P:Program}{t e:TypeId}{b n es:Nat}{kd:IntKind}{lo:Int}(he:elemB P t=some e)(hs:sizeB P e=some es)(hk:Nat.ble (Nat.div (Nat.add big es) big) 1=true)(hk2:Nat.blt (Nat.add big es) big=false)(h:0≤lo∧lo≤((n:Nat):Int)) :
  qki_ P t (.slice (some ⟨b,0,none⟩) n (Nat.add big es)) (some (.int kd lo)) none none Ax.h0=some (.slice (some ⟨b,lo.toNat*es,none⟩) (n-lo.toNat) (Nat.add big es),Ax.h0):=by
 obtain⟨l,rfl⟩:=Int.eq_ofNat_of_zero_le h.1
 have hl:l≤n:=by omega
 unfold qki_
 show qkw_ P t (weakL (.slice (some ⟨b,0,none⟩) n (Nat.add big es))) (some (.int kd (l:Int))) none none Ax.h0=_
 have hw:weakL (.slice (some ⟨b,0,none⟩) n (Nat.add big es))=.slice (some ⟨b,0,none⟩) n (Nat.add big es):=by
  show sel (Nat.ble (Nat.div (Nat.add big es) big) 1) _ _=_
  rw[hk,sel_true]
 rw[hw]
 unfold qkw_
 rw[show qjp_ (.slice (some ⟨b,0,none⟩) n (Nat.add big es))=some (b,0,n,Nat.add big es) from rfl,oc_some,he,oc_some,hs,oc_some]
 show oc (sel (Nat.blt (Nat.add big es) big) _ (sel (Nat.beq (Nat.add big es) (Nat.add big es)) (slU b 0 n es (some (.int kd (l:Int))) none) none)) none _=_
 rw[hk2,sel_false,Nat.beq_refl,sel_true]
 unfold slU
 show oc (oc (some l) none _) none _=_
 rw[oc_some]
 show oc (oc (some n) none _) none _=_
 rw[oc_some,Nat.ble_eq_true_of_le hl,Nat.ble_eq_true_of_le (Nat.le_refl n)]
 show some (_,_)=some (_,_)
 simp
theorem ixSO {P:Program}{t e:TypeId}{b n q es:Nat}{kd:IntKind}{i:Int}(k:Nat)(he:elemB P t=some e)(hs:sizeB P e=some es)(h:0≤i∧i<(n:Int)):qdt_ P t (.slice (some ⟨b,k*es,none⟩) n q) (.int kd i) Ax.h0=some (.pointer (some ⟨b,(k+i.toNat)*es,none⟩),Ax.h0):=by
 obtain⟨j,rfl⟩:=Int.eq_ofNat_of_zero_le h.1
 have hj:Nat.blt j n=true:=by simp[Nat.blt_eq]; omega
 unfold qdt_
 rw[show isAddr (.slice (some ⟨b,k*es,none⟩) n q)=false from rfl,sel_false]
 unfold qfl_
 rw[show qjp_ (.slice (some ⟨b,k*es,none⟩) n q)=some (b,k*es,n,q) from rfl,oc_some]
 have:idx (.int kd (.ofNat j)) n=some j:=by show (match Nat.blt j n with | true=>some j | false=>none)=_; rw[hj]
 show oc (idx (.int kd (.ofNat j)) n) none _=_
 rw[this,oc_some,he,oc_some,hs,oc_some]
 show some (Value.pointer (some ⟨b,k*es+j*es,none⟩),_)=some (Value.pointer (some ⟨b,(k+(j:Int).toNat)*es,none⟩),_)
 rw[Int.toNat_natCast,Nat.add_mul]
theorem qxe_ {α:Type}{L:List α}{i:Nat}{x d:α}(h:i<L.length):(L.set i x).getD i d=x:=by
 rw[List.getD_eq_getElem?_getD,List.getElem?_set_self h]; rfl
theorem rows_ldS {α:Type}{f:α→List Value}{k:Nat}(hf:RowF f k){L:List α}{i j:Nat}{v:Value}(x:α)(off:Nat)(ho:off=i*k+j)(h:i<L.length)(hj:j<k)(hv:(f x)[j]?=some v):(layT (rows f (L.set i x))).get off=some v:=
 rows_ld hf x off ho (by rw[List.length_set]; exact h) hj (by rw[qxe_ h]; exact hv)
theorem rows_stS {α:Type}{f:α→List Value}{k:Nat}(hf:RowF f k){L:List α}{i j:Nat}{l:List Value}(x y:α)(off:Nat)(ho:off=i*k+j)(h:i<L.length)(hj:j+l.length≤k)
  (hx:f y=(f x).take j++l++(f x).drop (j+l.length)):∃ old,rdT (layT (rows f (L.set i x))) l.length off=some old∧layL l off (layT (rows f (L.set i x)))=layT (rows f (L.set i y)):=by
 have:=qxd_ hf x (L:=L.set i x) y off ho (by rw[List.length_set]; exact h) hj (by rw[qxe_ h]; exact hx)
 rwa [List.set_set] at this
theorem reps_iv:∀ n,reps [Value.int .i64 0] n=iv (List.replicate n 0)
 | 0=>rfl
 | n+1=>by
  rw[List.replicate_succ,iv,List.map_cons,←iv,←reps_iv n]
  rfl
def slQ {α:Type}(L:List α)(b n sz:Nat):Value:=
 match L with
 | []=>.slice none 0 0
 | _::_=>.slice (some ⟨b,0,none⟩) n (Nat.add big sz)
theorem slRowHi {P:Program}{t e:TypeId}{b n es:Nat}{kd:IntKind}{hi:Int}(he:elemB P t=some e)(hs:sizeB P e=some es)(hk:Nat.ble (Nat.div (Nat.add big es) big) 1=true)(hk2:Nat.blt (Nat.add big es) big=false)(h:0≤hi∧hi≤((n:Nat):Int)) :
  qki_ P t (.slice (some ⟨b,0,none⟩) n (Nat.add big es)) none (some (.int kd hi)) none Ax.h0=some (.slice (some ⟨b,0,none⟩) hi.toNat (Nat.add big es),Ax.h0):=by
 obtain⟨l,rfl⟩:=Int.eq_ofNat_of_zero_le h.1
 have hl:l≤n:=by omega
 unfold qki_
 show qkw_ P t (weakL (.slice (some ⟨b,0,none⟩) n (Nat.add big es))) none (some (.int kd (l:Int))) none Ax.h0=_
 have hw:weakL (.slice (some ⟨b,0,none⟩) n (Nat.add big es))=.slice (some ⟨b,0,none⟩) n (Nat.add big es):=by
  show sel (Nat.ble (Nat.div (Nat.add big es) big) 1) _ _=_
  rw[hk,sel_true]
 rw[hw]
 unfold qkw_
 rw[show qjp_ (.slice (some ⟨b,0,none⟩) n (Nat.add big es))=some (b,0,n,Nat.add big es) from rfl,oc_some,he,oc_some,hs,oc_some]
 show oc (sel (Nat.blt (Nat.add big es) big) _ (sel (Nat.beq (Nat.add big es) (Nat.add big es)) (slU b 0 n es none (some (.int kd (l:Int)))) none)) none _=_
 rw[hk2,sel_false,Nat.beq_refl,sel_true]
 unfold slU
 show oc (oc (some 0) none _) none _=_
 rw[oc_some]
 show oc (oc (some l) none _) none _=_
 rw[oc_some,Nat.ble_eq_true_of_le (Nat.zero_le l),Nat.ble_eq_true_of_le hl]
 show some (_,_)=some (_,_)
 simp
theorem rows_take {α:Type}(f:α→List Value){k:Nat}(hf:RowF f k):∀ (L:List α) (n:Nat),rows f (L.take n)=(rows f L).take (n*k)
 | [],n=>by simp[rows]
 | a::L,0=>by simp[rows]
 | a::L,n+1=>by
  have ih:=rows_take f hf L n
  have h1:(f a).length≤(n+1)*k:=by rw[hf.len,Nat.succ_mul]; omega
  have h2:(n+1)*k-(f a).length=n*k:=by rw[hf.len,Nat.succ_mul]; omega
  simp only[rows,List.flatMap_cons,List.take_succ_cons] at ih ⊢
  rw[List.take_append,h2,ih,List.take_of_length_le h1]
theorem qpp_ {α:Type}{f:α→List Value}{k:Nat}(hf:RowF f k)(L:List α)(n:Nat)(hn:n≤L.length):rdT (layT (rows f L)) (Nat.mul n k) 0=some (rows f (L.take n)):=by
 have hl:n*k≤(rows f L).length:=by rw[qk0_ hf]; exact Nat.mul_le_mul_right k hn
 rw[rows_take f hf]
 refine qww_ _ _ _ (by rw[List.length_take]; exact Nat.min_eq_left hl) fun j hj=>?_
 rw[qfu_,Nat.zero_add,List.getElem?_take_of_lt (show j<n*k from hj)]
theorem qzl_ {α:Type}{L K:List α}{n r:Nat}(h:n≤L.length)(hr:r=K.length):Nat.add n r=(L.take n++K).length:=by
 show n+r=_
 rw[List.length_append,List.length_take,Nat.min_eq_left h,hr]
theorem slN0Lo {P:Program}{t:TypeId}{kd:IntKind}{lo:Int}(h:lo=0)(k:qki_ P t (.slice none 0 0) (some (.int kd 0)) none none Ax.h0=some (.slice none 0 0,Ax.h0)) :
  qki_ P t (.slice none 0 0) (some (.int kd lo)) none none Ax.h0=some (.slice none 0 0,Ax.h0):=by subst h; exact k
theorem iv_rdSub (L:List Int)(m n:Nat)(h:m+n≤L.length):rdT (layT (iv L)) (Nat.mul n 1) (m*1)=some (iv ((L.drop m).take n)):=by
 have e:iv ((L.drop m).take n)=((iv L).drop m).take n:=by rw[iv,iv,List.map_take,List.map_drop]
 rw[e,Nat.mul_one]
 refine qww_ _ _ _ (by rw[List.length_take,List.length_drop,qx8_]; exact (Nat.min_eq_left (by omega)).trans (Nat.mul_one n).symm) fun j hj=>?_
 rw[qfu_,List.getElem?_take_of_lt (show j<n by rw[←Nat.mul_one n]; exact hj),List.getElem?_drop]
def slKQ {α:Type}(L:List α)(b n o k:Nat):Value:=
 match L with
 | []=>.slice none 0 0
 | _::_=>.slice (some ⟨b,o,none⟩) n k
end Go.Proofs.YthlikofobjhcoaaGreat.Ax
namespace Go.Proofs.YthlikofobjhcoaaGreat.Ax
open Go.RowKit
abbrev i6 (x:Int):Value:=.int .i64 x
abbrev bO (x:Bool):Value:=.bool x
abbrev pW (b o:Nat):Value:=.pointer (some ⟨b,o,some 1⟩)
abbrev pN (b o:Nat):Value:=.pointer (some ⟨b,o,none⟩)
abbrev sW (b o n k:Nat):Value:=.slice (some ⟨b,o,some 1⟩) n k
abbrev sN (b o n k:Nat):Value:=.slice (some ⟨b,o,none⟩) n k
abbrev vt:Ans:=.val (.bool true)
abbrev vf:Ans:=.val (.bool false)
abbrev dT (p:Prop)[Decidable p]:Prop:=Value.bool (decide p)=Value.bool true
abbrev dF (p:Prop)[Decidable p]:Prop:=Value.bool (decide p)=Value.bool false
abbrev eT (a b:Int):Prop:=Value.bool (a == b)=Value.bool true
abbrev eF (a b:Int):Prop:=Value.bool (a == b)=Value.bool false
abbrev nT (a b:Int):Prop:=Value.bool (a != b)=Value.bool true
abbrev nF (a b:Int):Prop:=Value.bool (a != b)=Value.bool false
abbrev bT (g:Bool):Prop:=Value.bool g=Value.bool true
abbrev bF (g:Bool):Prop:=Value.bool g=Value.bool false
abbrev U1:Nat:=Nat.add big 1
abbrev U3:Nat:=Nat.add big 3
abbrev U4:Nat:=Nat.add big 4
variable [Tabs]
theorem vBf {g:Bool}(h:¬ g=true):Value.bool g=Value.bool false:=vB (Bool.eq_false_iff.2 h)
abbrev IA (P:Program)(t:TypeId)(x:Value)(i:Int)(p:Value):Prop:=qdt_ P t x (.int .i64 i) Ax.h0=some (p,Ax.h0)
abbrev FA (P:Program)(t:TypeId)(x:Value)(k:Nat)(p:Value):Prop:=qhe_ P t x k Ax.h0=some (p,Ax.h0)
abbrev Lg (P:Program)(t:TypeId)(p v:Value):Prop:=loadG P t p Ax.h0=some (v,Ax.h0)
structure OB (a:Ans) (p:Prop):Prop where
 p:p
inductive PL:List (Nat×Ans)→List (Nat×LAns)→List Prop→Prop
 | e:PL [] [] []
 | z {a:Ans} {p:Prop} {A:List (Nat×Ans)} {L:List (Nat×LAns)} {l:List Prop} (j:Nat) (h:OB a p) (t:PL A L l):PL ((j,a)::A) L (p::l)
 | y {A:List (Nat×Ans)} {L:List (Nat×LAns)} {l:List Prop} (j:Nat) (a:Ans) (t:PL A L l):PL ((j,a)::A) L l
 | w {p:Prop} {A:List (Nat×Ans)} {L:List (Nat×LAns)} {l:List Prop} (h:p) (t:PL A L l):PL A L (p::l)
 | l {A:List (Nat×Ans)} {L:List (Nat×LAns)} {l:List Prop} (j:Nat) (a:LAns) (t:PL A L l):PL A ((j,a)::L) l
theorem PL.all {A:List (Nat×Ans)}{L:List (Nat×LAns)}{l:List Prop}(h:PL A L l):AllP l:=by
 induction h with
 | e=>exact trivial
 | z j h _ ih=>exact⟨h.p,ih⟩
 | y j a _ ih=>exact ih
 | w h _ ih=>exact⟨h,ih⟩
 | l j a _ ih=>exact ih
theorem ee:PL [] [] []:=.e
theorem zz {a:Ans}{p:Prop}{A:List (Nat×Ans)}{L:List (Nat×LAns)}{l:List Prop}(j:Nat)(h:OB a p)(t:PL A L l):PL ((j,a)::A) L (p::l):=.z j h t
theorem yy {A:List (Nat×Ans)}{L:List (Nat×LAns)}{l:List Prop}(j:Nat)(a:Ans)(t:PL A L l):PL ((j,a)::A) L l:=.y j a t
structure OB2 (a:Ans) (p q:Prop):Prop where
 p:p
 q:q
theorem z2 {a:Ans}{p q:Prop}{A:List (Nat×Ans)}{L:List (Nat×LAns)}{l:List Prop}(j:Nat)(h:OB2 a p q)(t:PL A L l):PL ((j,a)::A) L (p::q::l):=.y j a (.w h.p (.w h.q t))
theorem ste {t t':Tr Value}{k o:Nat}{l:List Value}(h:∃ old,rdT t k o=some old∧layL l o t=t'):OB2 (.sto t') (∃ old,rdT t k o=some old) (layL l o t=t'):=h.elim fun x h=>⟨⟨x,h.1⟩,h.2⟩
theorem stI {L:List Int}{i:Nat}(x:Int)(h:i<L.length):OB2 (.sto (layT (iv (L.set i x)))) (∃ old,rdT (layT (iv L)) 1 i=some old) (layL [i6 x] i (layT (iv L))=layT (iv (L.set i x))):=ste (iv_st L i x h)
theorem ww {p:Prop}{A:List (Nat×Ans)}{L:List (Nat×LAns)}{l:List Prop}(h:p)(t:PL A L l):PL A L (p::l):=.w h t
theorem ll {A:List (Nat×Ans)}{L:List (Nat×LAns)}{l:List Prop}(j:Nat)(a:LAns)(t:PL A L l):PL A ((j,a)::L) l:=.l j a t
theorem runC2 {P:Program}(hm:P.follows .mixedOrders=true){rnd:Option Nat}{N m:Nat}(wk:WkS){c:Code}{s:XSt}{x:Ex×XSt}{A:List (Nat×Ans)}{L:List (Nat×LAns)}{ps:List Prop}(hp:PL A L ps)(h:runC P (aT A) (lT L) rnd N m wk c s=some (x,ps)):CG P rnd N m c s x:=runC_ok hm h hp.all
theorem runF2 {P:Program}(hm:P.follows .mixedOrders=true){f:Nat}(wk:WkS){args:List Value}{H H':AH}{v:Value}{A:List (Nat×Ans)}{L:List (Nat×LAns)}{ps:List Prop}(hp:PL A L ps)(h:runF P (aT A) (lT L) f wk args H=some ((v,H'),ps)):Gv P (.func f) args H v H':=runF_ok hm h hp.all
theorem runY2 {P:Program}(hm:P.follows .mixedOrders=true){l:Nat}(wk:WkS){args:List Value}{H H':AH}{v:Value}{A1 A2:List (Nat×Ans)}{L1 L2:List (Nat×LAns)}{p1 p2:List Prop}(h1:PL A1 L1 p1)(h2:PL A2 L2 p2)(h:runY P (aT A1) (aT A2) (lT L1) (lT L2) l wk args H=some ((v,H'),p1++p2)):Gv P (.yield l) args H v H':=
 runY_ok hm h (h1.all.app h2.all)
theorem gd {α:Type}{c:Prop}[Decidable c]{x:Option α}{r:α}(h:(if c then x else none)=some r):c∧x=some r:=by
 by_cases hc:c
 ·rw[if_pos hc] at h; exact⟨hc,h⟩
 ·rw[if_neg hc] at h; cases h
theorem gdD {α:Type}{c:Prop}[Decidable c]{x:c→Option α}{r:α}(h:(if hc:c then x hc else none)=some r):∃ hc:c,x hc=some r:=by
 by_cases hc:c
 ·rw[dif_pos hc] at h; exact⟨hc,h⟩
 ·rw[dif_neg hc] at h; cases h
theorem oB {α β:Type}{o:Option α}{f:α→Option β}{r:β}(h:o.bind f=some r):∃ a,o=some a∧f a=some r:=Option.bind_eq_some_iff.1 h
theorem xdT {c:Prop}[Decidable c](h:c):OB vt (dT c):=⟨vbT h⟩
theorem xdF {c:Prop}[Decidable c](h:¬ c):OB vf (dF c):=⟨vbF h⟩
theorem xeT {a b:Int}(h:a=b):OB vt (eT a b):=⟨veT h⟩
theorem xeF {a b:Int}(h:¬ a=b):OB vf (eF a b):=⟨veF h⟩
theorem xnT {a b:Int}(h:¬ a=b):OB vt (nT a b):=⟨vnT h⟩
theorem xnF {a b:Int}(h:a=b):OB vf (nF a b):=⟨vnF h⟩
theorem xbT {g:Bool}(h:g=true):OB vt (bT g):=⟨vB h⟩
theorem xbF {g:Bool}(h:¬ g=true):OB vf (bF g):=⟨vBf h⟩
theorem xnm {x v:Int}(h:some x=some v):OB (.val (i6 v)) (i6 x=i6 v):=⟨by cases h; rfl⟩
abbrev ivN (L:List Int)(o:Nat)(v:Int):Prop:=(layT (iv L)).get o=some (i6 v)
theorem xivN {L:List Int}{i:Nat}{v:Int}(hv:some (L.getD i 0)=some v)(h:i<L.length):OB (.ld (i6 v)) (ivN L i v):=⟨by cases hv; exact iv_ld _ _ h⟩
theorem rows_stN {α:Type}{f:α→List Value}{k:Nat}(hf:RowF f k)(d:α){L:List α}{i j:Nat}{l:List Value}{r:α}(hr:some (L.getD i d)=some r)(x:α)(off:Nat)(ho:off=i*k+j)(h:i<L.length)(hj:j+l.length≤k)
  (hx:f x=(f r).take j++l++(f r).drop (j+l.length)):∃ old,rdT (layT (rows f L)) l.length off=some old∧layL l off (layT (rows f L))=layT (rows f (L.set i x)):=by
 cases hr; exact qxd_ hf d x off ho h hj hx
theorem rows_rdpN {α:Type}{f:α→List Value}{k:Nat}(hf:RowF f k)(d:α){L:List α}{i j n:Nat}{l:List Value}{r:α}(hr:some (L.getD i d)=some r)(off:Nat)(ho:off=i*k+j)(h:i<L.length)(hj:j+n≤k)(hl:((f r).drop j).take n=l):rdT (layT (rows f L)) n off=some l:=by
 cases hr; exact rows_rdp hf d off ho h hj hl
end Go.Proofs.YthlikofobjhcoaaGreat.Ax
