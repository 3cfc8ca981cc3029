/-
 Literals and variables that are made while calls run. Own work, plain lemmas.
-/
import Derived.Test.YthlikofobjhcoaaGreatAxR
set_option linter.unusedSimpArgs false
set_option linter.unusedVariables false
set_option linter.unnecessarySimpa false
set_option linter.deprecated false
set_option linter.unusedSectionVars false
/-! Literals and variables that are made while calls run. Own work, plain lemmas. -/
namespace Go.Proofs.YthlikofobjhcoaaGreat.Ax
open Go.RowKit
variable [Tabs]
noncomputable def msGo (P:Program)(t:TypeId)(l c:Value):Option (Nat×Nat×List Value×TypeId):=
 oc (natOf l) none fun l=>oc (natOf c) none fun c=>oc (elemB P t) none fun e=>oc (zeroB P e) none fun z=>oc (sizeB P e) none fun s=>oc (qxn_ P e) none fun bs=>
  sel (Nat.ble l c&&fits c bs&&Nat.beq z.length s) (some (l,c,reps (nilzL z) c,e)) none
noncomputable def bsGo (P:Program)(t:TypeId)(len:Nat)(ps:List (Nat×Value)):Option (List Value×TypeId):=
 oc (elemB P t) none fun e=>oc (zeroB P e) none fun z=>oc (sizeB P e) none fun s=>
  sel (Nat.ble (Nat.mul len s) 16777216&&Nat.beq z.length s&&noAny ps) (oc (Instr.fill (fun i=>some (i*s,s)) ⟨reps z len⟩ ps) none fun cs=>some (cs.toList,e)) none
theorem qvq_ {P:Program}(w:World)(l:List Value)(e:TypeId):(newRow e ⟨l⟩).run P w=.ok ⟨w.heap.size,0,none⟩ (w.alloc (.cells ⟨l⟩ e)):=by
 simp[newRow,newObj,Sem.run_bind,Sem.run,World.alloc_eq]
theorem ms_run {P:Program}{σ:Ren}{w:World}{t:TypeId}{l l' c c':Value}{r:Nat×Nat×List Value×TypeId}(h:msGo P t l c=some r)(hl:VR σ l l')(hc:VR σ c c') :
  ∃ R,VRs σ r.2.2.1 R∧(r.2.1<big∧r.1≤r.2.1)∧(Instr.makeSlice t l' c').run P w=.ok (.slice (some ⟨w.heap.size,0,none⟩) r.1 r.2.1) (w.alloc (.cells ⟨R⟩ r.2.2.2)):=by
 obtain⟨ln,hln,h⟩:=oS h
 obtain⟨cn,hcn,h⟩:=oS h
 obtain⟨e,he,h⟩:=oS h
 obtain⟨z,hz,h⟩:=oS h
 obtain⟨s,hs,h⟩:=oS h
 obtain⟨bs,hbs,h⟩:=oS h
 obtain⟨hb,h⟩:=sel_none h
 obtain rfl:=oI h
 clear h
 obtain⟨k1,rfl⟩:=qu1_ hln
 obtain⟨k2,rfl⟩:=qu1_ hcn
 cases hl
 cases hc
 simp only[bA,fits] at hb
 obtain⟨⟨h1,h2,h3⟩,h4⟩:=hb
 have h1:=Nat.le_of_ble_eq_true h1
 have h2:=Nat.le_of_ble_eq_true h2
 have h3:=Nat.le_of_ble_eq_true h3
 have h4:=nB h4
 have hmul:Nat.mul cn bs=cn*bs:=rfl
 rw[hmul] at h2
 obtain⟨i,hi,rfl⟩:=run_bytesB hbs
 obtain⟨zv,z1,z2,z3⟩:=qtl_ hz w
 have r1:=qvq_ (P:=P) w (reps z cn) e
 have hu:=qgn_ he
 have w1:IntKind.i64.wrap (ln:Int)=(ln:Int):=IntWalk.i64_in _ (by omega)
 have w2:IntKind.i64.wrap (cn:Int)=(cn:Int):=IntWalk.i64_in _ (by omega)
 have hbig:¬ ((281474976710656:Int)<(i.bytes:Int)*(cn:Int)):=by
  have:(i.bytes:Int)*(cn:Int)=((cn*i.bytes:Nat):Int):=by rw[Int.natCast_mul,Int.mul_comm]
  rw[this]; omega
 have hsz:i.size=s:=by
  obtain⟨i',hi',hs'⟩:=oS hs
  rw[hi] at hi'
  obtain rfl:=oI hi'
  exact oI hs'
 have hlt:¬ ((cn:Int)<(ln:Int)):=by omega
 refine⟨reps z cn,reps_vr (nilzL_vr (qiw_ z3 σ)) cn,⟨by show cn<1180591620717411303424; exact Nat.lt_of_le_of_lt h3 (by decide),h1⟩,?_⟩
 generalize w.alloc (.cells ⟨reps z cn⟩ e)=w' at r1 ⊢
 show (Instr.makeSlice t (.int k1 ln) (.int k2 cn)).run P w=.ok (.slice (some ⟨w.heap.size,0,none⟩) ln cn) w'
 have q1:¬ ((cn:Int)<0):=by omega
 have q2:¬ ((ln:Int)<0):=by omega
 by_cases h0:cn*i.size=0
 ·have hrz:reps z cn=[]:=by
   have:=qfb_ z cn
   rw[h4,←hsz,h0] at this
   exact List.length_eq_zero_iff.1 this
  rw[hrz] at r1
  simp[Instr.makeSlice,run_underlying hu,asInt,asIntOf,typeInfo,hi,w1,w2,hlt,hbig,sizeOf,askRoom,h0,q1,q2]
  have e0:Array.map (fun _=>(default:Value)) (Array.range 0)=⟨[]⟩:=by simp[Array.range]
  rw[e0,r1]
  simp
 ·have hrow:=qr9_ ⟨z⟩ cn (cn*i.size) (by simp[h4,hsz])
  simp at hrow
  simp[Instr.makeSlice,run_underlying hu,asInt,asIntOf,typeInfo,hi,w1,w2,hlt,hbig,sizeOf,askRoom,h0,zeroValue,q1,q2]
  obtain⟨iz,hiz,hzz⟩:∃ iz,i.zero=some iz∧iz.cells=⟨z⟩:=by
   simp[zeroValue,typeInfo,hi] at z1
   cases hq:i.zero with
   | none=>rw[hq] at z1; simp[unsupported,Sem.run] at z1
   | some iz=>rw[hq] at z1; simp at z1; subst z1; exact⟨iz,rfl,z2⟩
  simp only[hiz,hzz]
  simp[hzz,hrow,r1]
theorem bs_run {P:Program}{σ:Ren}{w:World}{t:TypeId}{len:Nat}{ps:List (Nat×Value)}{qs:Array (Nat×Value)}{r:List Value×TypeId}(h:bsGo P t len ps=some r)(hp:PRs σ ps qs.toList) :
  ∃ l',VRs σ r.1 l'∧(Instr.buildSlice t len qs).run P w=.ok (.slice (some ⟨w.heap.size,0,none⟩) len len) (w.alloc (.cells ⟨l'⟩ r.2)):=by
 obtain⟨e,he,h⟩:=oS h
 obtain⟨z,hz,h⟩:=oS h
 obtain⟨s,hs,h⟩:=oS h
 obtain⟨hb,h⟩:=sel_none h
 obtain⟨cs,hcs,h⟩:=oS h
 obtain rfl:=oI h
 clear h
 simp only[bA] at hb
 obtain⟨hb,hna⟩:=hb
 have h1:len*s≤16777216:=Nat.le_of_ble_eq_true hb.1
 have h4:=nB hb.2
 obtain⟨zv,z1,z2,z3⟩:=qtl_ hz w
 obtain⟨cs',f1,f2⟩:=fill_vr hp hna (cs:=⟨reps z len⟩) (cs':=⟨reps z len⟩) (qiw_ (qsa_ z3 len) σ) hcs
 have r1:=qvq_ (P:=P) w cs'.toList e
 have hu:=qgn_ he
 refine⟨cs'.toList,f2,?_⟩
 show _=Result.ok _ (w.alloc (.cells ⟨cs'.toList⟩ e))
 generalize w.alloc (.cells ⟨cs'.toList⟩ e)=w' at r1 ⊢
 have r1:(newRow e cs').run P w=.ok ⟨w.heap.size,0,none⟩ w':=r1
 have hbig':¬ (len*s > 2 ^ 24):=by omega
 simp only[Instr.buildSlice,Sem.run_bind,run_underlying hu,Result.andThen_ok,qcy_ hs]
 rw[if_neg hbig']
 by_cases h0:len*s=0
 ·have hrz:reps z len=[]:=by
   have:=qfb_ z len
   rw[h4,h0] at this
   exact List.length_eq_zero_iff.1 this
  rw[hrz] at f1
  have e0:Array.map (fun i=>(#[]:Array Value)[i % (#[]:Array Value).size]!) (Array.range (len*s))=⟨[]⟩:=by rw[h0]; simp[Array.range]
  rw[if_pos h0]
  simp only[Sem.run_bind,Sem.run_pure,Result.andThen_ok,e0,f1,r1]
 ·have hrow:=qr9_ ⟨z⟩ len (len*s) (by simp[h4])
  rw[if_neg h0]
  simp only[Sem.run_bind,Sem.run_pure,Result.andThen_ok,z1,z2,hrow,f1,r1]
noncomputable def msGoU (P:Program)(t:TypeId)(c:Value):Option (Nat×TypeId):=
 oc (natOf c) none fun c=>oc (elemB P t) none fun e=>oc (zeroB P e) none fun z=>oc (sizeB P e) none fun s=>oc (qxn_ P e) none fun bs=>
  sel (fits c bs&&Nat.beq z.length s&&Nat.blt s 4096) (some (s,e)) none
theorem msU_run {P:Program}{σ:Ren}{w:World}{t:TypeId}{k:IntKind}{l' c c':Value}{r:Nat×TypeId}(h:msGoU P t c=some r)(hl:VR σ (.int k 0) l')(hc:VR σ c c') :
  ∃ R cn,R.length=cn*r.1∧r.1<big∧(Instr.makeSlice t l' c').run P w=.ok (.slice (some ⟨w.heap.size,0,none⟩) 0 cn) (w.alloc (.cells ⟨R⟩ r.2)):=by
 obtain⟨cn,hcn,h⟩:=oS h
 obtain⟨e,he,h⟩:=oS h
 obtain⟨z,hz,h⟩:=oS h
 obtain⟨s,hs,h⟩:=oS h
 obtain⟨bs,hbs,h⟩:=oS h
 obtain⟨hb,h⟩:=sel_none h
 obtain rfl:=oI h
 simp only[bA] at hb
 have h4:=nB hb.1.2
 have h5:s<4096:=Nat.le_of_ble_eq_true hb.2
 have hg:msGo P t (.int k 0) c=some (0,cn,reps (nilzL z) cn,e):=by
  show oc (some 0) none (fun l=>oc (natOf c) none _)=_
  rw[oc_some,hcn,oc_some,he,oc_some,hz,oc_some,hs,oc_some,hbs,oc_some,hb.1.1,hb.1.2]
  rfl
 obtain⟨R,h1,_,h3⟩:=ms_run (P:=P) (w:=w) hg hl hc
 exact⟨R,cn,by rw[←h1.length,qfb_,qu2_,h4],by show s<big; unfold big; omega,h3⟩
noncomputable def fltOp (P:Program)(op:Op)(T:Tr Value)(X:Nat):Option (Value×ABlk):=
 match op with
 | .alloc e=>oc (zeroB P e) none fun l=>some (.pointer (some ⟨X,0,none⟩),allocB l e)
 | .box e x=>sel (!isAny (ev T x)) (some (.pointer (some ⟨X,0,none⟩),.cells (layT (qxm_ (ev T x))) e)) none
 | .buildSlice t n ps=>sel (Nat.blt n big) (oc (bsGo P t n (evP T ps.toList)) none fun r=>some (.slice (some ⟨X,0,none⟩) n n,.cells (layT r.1) r.2)) none
 | .makeSlice t l c=>sel (mkU l c) (oc (msGoU P t (ev T c)) none fun r=>some (.slice (some ⟨X,0,none⟩) 0 (Nat.add big r.1),.cells .nil r.2)) (oc (msGo P t (ev T l) (ev T c)) none fun r=>some (.slice (some ⟨X,0,none⟩) r.1 r.2.1,.cells (layT r.2.2.1) r.2.2.2))
 | .makeMap _ none=>some (.map (some X),.map [] 0)
 | _=>none
theorem fltOp_congr {P:Program}{op:Op}{T T':Tr Value}{X:Nat}(h:∀ x∈op.operands,ev T x=ev T' x):fltOp P op T X=fltOp P op T' X:=by
 cases op<;>simp only[Op.operands] at h<;>simp only[fltOp]
 case buildSlice t k ps=>rw[q1k_ fun x hx=>h x (by simpa using hx)]
 case makeMap t r=>cases r<;>rfl
 all_goals (first | rfl | (simp_all; done))
theorem BR.lay {σ:Ren}{l l':List Value}(h:VRs σ l l')(c:Nat){X:Nat}(hx:σ X=none)(e:TypeId):BR (σ.put X (c,0,l'.length)) 0 l'.length (some (.cells ⟨l'⟩ e (0,0))) (.cells (layT l) e):=by
 refine⟨_,rfl,by simp,fun i u hu=>?_⟩
 rw[qfu_] at hu
 have hext:σ.Ext (σ.put X (c,0,l'.length)):=⟨fun y t hy=>by
  rw[Ren.put_other _ _ (fun e=>by rw[e,hx] at hy; cases hy)]; exact hy,fun _ _ _ h=>h⟩
 obtain⟨u',e1,e2⟩:=(h.mono hext).get i u hu
 exact⟨u',by simpa using e1,e2⟩
theorem flt_ok {P:Program}{N:Nat}{σ:Ren}{w:World}{o:Oper}{a:Act}{T:Tr Value}(hT:TR σ N T a.tmps)(hop:opOk o.op=true){X:Nat}(hX:σ X=none){r:Value×ABlk}(h:fltOp P o.op T X=some r) :
  (∀ c,o.op ≠ .defer c)∧∃ x m v',(execOp a.eval o).run P w=.ok (.value v') (w.alloc x)∧VR (σ.put X (w.heap.size,0,m)) r.1 v'∧BR (σ.put X (w.heap.size,0,m)) 0 m (some x) r.2:=by
 obtain⟨dst,op,ty,pos,after,guard⟩:=o
 have hself:∀ m,(σ.put X (w.heap.size,0,m)) X=some (w.heap.size,0,m):=fun m=>Ren.put_self _ _ _
 cases op with
 | alloc e=>
  obtain⟨l,hl,h⟩:=oS h
  obtain rfl:=oI h
  obtain⟨z,h1,h2,h3⟩:=qtl_ hl w
  refine⟨fun c=>by simp,.cells ⟨l⟩ e,l.length,.pointer (some ⟨w.heap.size,0,none⟩),?_,by simpa using VR.ptr 0 (hself l.length),allocB_br (qiw_ h3 _) (.lay (qiw_ h3 σ) _ hX e) rfl rfl⟩
  have:=qvq_ (P:=P) w l e
  simp only[execOp,Instr.alloc,newVar,Sem.run_bind,h1,h2,this,Result.andThen_ok,Sem.run_pure]
 | box e x=>
  obtain⟨hn,h⟩:=sel_none h
  obtain rfl:=oI h
  simp only[Bool.not_eq_true'] at hn
  have hv:=qvg_ (ev_ok (a:=a) hT hop) hn
  refine⟨fun c=>by simp,.cells ⟨(a.eval x).cells.toList⟩ e,(a.eval x).cells.toList.length,.pointer (some ⟨w.heap.size,0,none⟩),?_,by simpa using VR.ptr 0 (hself _),.lay hv _ hX e⟩
  have:=qvq_ (P:=P) w (a.eval x).cells.toList e
  simp only[execOp,Instr.box,newVar,Sem.run_bind,this,Result.andThen_ok,Sem.run_pure]
 | buildSlice t n ps=>
  obtain⟨hk,h⟩:=sel_none h
  obtain⟨q,hq,h⟩:=oS h
  obtain rfl:=oI h
  obtain⟨l',h1,h2⟩:=bs_run (P:=P) (σ:=σ) (w:=w) (qs:=ps.map fun p=>(p.1,a.eval p.2)) hq (by simpa using evP_ok (a:=a) hT hop)
  refine⟨fun c=>by simp,.cells ⟨l'⟩ q.2,l'.length,.slice (some ⟨w.heap.size,0,none⟩) n n,?_,by simpa using VR.slice 0 n n (hself l'.length) (qfr_ hk) (Nat.le_refl _),.lay h1 _ hX q.2⟩
  have h2:(Instr.buildSlice t n (ps.map fun (i,x)=>(i,a.eval x))).run P w=.ok (.slice (some ⟨w.heap.size,0,none⟩) n n) (w.alloc (.cells ⟨l'⟩ q.2)):=h2
  simp only[execOp,Sem.run_bind,h2,Result.andThen_ok,Sem.run_pure]
 | makeSlice t x y=>
  simp only[opOk,bA] at hop
  rcases qa_ h with⟨hm,hu⟩ | ⟨_,h⟩
  ·obtain⟨k,rfl⟩:=mkU_eq hm
   obtain⟨q,hq,hu⟩:=oS hu
   obtain rfl:=oI hu
   obtain⟨R,cn,h1,h2,h3⟩:=msU_run (P:=P) (w:=w) hq (ev_ok (a:=a) hT hop.1) (ev_ok (a:=a) hT hop.2)
   refine⟨fun c=>by simp,.cells ⟨R⟩ q.2,R.length,.slice (some ⟨w.heap.size,0,none⟩) 0 cn,?_,VR.sliceU 0 0 0 cn q.1 (hself R.length) (Nat.zero_le _) (.inl rfl) (Nat.le_refl _) (by rw[h1]; omega) h2,⟨⟨R⟩,rfl,by simp,fun i v hv=>by rw[Tr.get_nil] at hv; cases hv⟩⟩
   simp only[execOp,Sem.run_bind,h3,Result.andThen_ok,Sem.run_pure]
  obtain⟨q,hq,h⟩:=oS h
  obtain rfl:=oI h
  obtain⟨R,h1,h2,h3⟩:=ms_run (P:=P) (w:=w) hq (ev_ok (a:=a) hT hop.1) (ev_ok (a:=a) hT hop.2)
  refine⟨fun c=>by simp,.cells ⟨R⟩ q.2.2.2,R.length,.slice (some ⟨w.heap.size,0,none⟩) q.1 q.2.1,?_,by simpa using VR.slice 0 q.1 q.2.1 (hself R.length) h2.1 h2.2,.lay h1 _ hX q.2.2.2⟩
  simp only[execOp,Sem.run_bind,h3,Result.andThen_ok,Sem.run_pure]
 | makeMap t r=>
  cases r with
  | some x=>cases h
  | none=>
   obtain rfl:=oI h
   refine⟨fun c=>by simp,.map #[] 0,0,.map (some w.heap.size),?_,.map (hself 0),⟨[],rfl,.nil _ _,rfl,rfl⟩⟩
   simp[execOp,Instr.makeMap,newObj,Sem.run_bind,Sem.run,World.alloc_eq]
 | _=>cases h
end Go.Proofs.YthlikofobjhcoaaGreat.Ax
namespace Go.Proofs.YthlikofobjhcoaaGreat.Ax
open Go.RowKit
variable [Tabs]
def GivesX (P:Program)(n0:Bs)(σ:Ren)(w:World)(s:Sem Value)(v:Value)(H':AH)(b:Nat):Prop:=
 ∃ v' σ' w',s.run P w=.ok v' w'∧VR σ' v v'∧HR n0 σ' H' w'∧Step n0 σ w H'.low σ' w' ∧
  ∃ k d m,σ b=some (k,d,m)∧(∀ q,q<w.heap.size→q ≠ k→w'.heap[q]?=w.heap[q]?)∧∀ b' c d' m',σ' b'=some (c,d',m')→σ b'=some (c,d',m')∨c=k∨w.heap.size≤c
theorem qy1_ {P:Program}{n0:Bs}{σ:Ren}{H H':AH}{w:World}(hr:HR n0 σ H w){b o:Nat}{l l':List Value}(h:storeB H b o l=some H')(hl:VRs σ l l'){k d m:Nat}(hs:σ b=some (k,d,m)){o' i:Nat}(ho:o' + i=d+o) :
  ∃ w',(storeCells ⟨k,o',none⟩ l' i).run P w=.ok () w'∧HR n0 σ H' w'∧Step n0 σ w H'.low σ w'∧∀ q,q ≠ k→w'.heap[q]?=w.heap[q]?:=by
 obtain⟨x,hx,h⟩:=oS h
 obtain⟨old,hold,h⟩:=oS h
 obtain⟨hc,h⟩:=sel_none h
 obtain rfl:=oI h
 obtain⟨h1,h2⟩:=qvf_ x.1 l.length o old hold
 obtain⟨w',r1,r2,r3,r4⟩:=HR.stores (P:=P) hs hl (o:=o) (o':=o') (i:=i) hr (qds_ hx) hc (fun j hj=>⟨old[j]'(by rw[h1]; exact hj),by rw[h2 j hj]; simp⟩) ho
 exact⟨w',r1,r2,r3,r4⟩
theorem put_new {σ:Ren}{nx g o m:Nat}{P:Nat→Prop}(hg:P g):∀ b' c d' m',(σ.put nx (g,o,m)) b'=some (c,d',m')→σ b'=some (c,d',m')∨P c:=by
 intro b' c d' m' h
 by_cases e:b'=nx
 ·subst e
  rw[Ren.put_self] at h
  injection h with h
  injection h with h _
  subst h
  exact .inr hg
 ·rw[Ren.put_other _ _ e] at h
  exact .inl h
set_option maxHeartbeats 1000000 in
theorem appSome_exact {P:Program}{n0:Bs}{σ:Ren}{H H':AH}{w:World}(hr:HR n0 σ H w){t u ty e:TypeId}{d:TypeDesc}{i:TypeInfo}{z:List Value}{zv:Value}{r:Nat×List Value}{new':List Value}{s' x' v:Value}{b o n k:Nat}
  (he:P.underlying t=some (.slice e)) (hd:P.underlying u=some d) (hni:∀ k,d ≠ .int k) (hi:P.info? e=some i) (hiz:i.zero=some zv) (hzc:zv.cells=⟨z⟩) (hzl:z.length=i.size)
  (hnew:VRs σ r.2 new') (hnl':new'.length=r.1*i.size) (hlen:(Builtin.lenOf x').run P w=.ok r.1 w) (hfc:∀ k,(Builtin.firstCells i.size r.1 x').run P (World.at w k)=.ok ⟨new'⟩ (World.at w k))
  (hfc0:(Builtin.firstCells i.size r.1 x').run P w=.ok ⟨new'⟩ w) (hs:VR σ (.slice (some ⟨b,o,none⟩) n k) s') (hnl:notL (.slice (some ⟨b,o,none⟩) n k)=true) (hszb:i.size<big) (h:appGo H i.size e i.bytes r (.slice (some ⟨b,o,none⟩) n k)=some (v,H')) :
  GivesX P n0 σ w (Builtin.append_ #[t,u] ty #[s',x']) v H' b:=by
 have h:sel (Nat.beq r.1 0) (sel (Nat.ble n k) (some (.slice (some ⟨b,o,none⟩) n k,H)) none) (oc (qd0_ H b) none fun y=>qw5_ H i.size e i.bytes r b o n k y)=some (v,H'):=h
 rcases qa_ h with⟨hr0,h⟩ | ⟨hr0,h⟩
 ·have hr0:=nB hr0
  obtain⟨hnk,h⟩:=sel_none h
  obtain⟨rfl,rfl⟩:=pI (oI h)
  have hnk:=qd1_ hnk
  have hn0:new'=[]:=List.length_eq_zero_iff.1 (by rw[hnl',hr0]; simp)
  have fin:∀ (c d m p k':Nat),σ b=some (c,d,m)→n≤k'→VR σ (.slice (some ⟨b,o,none⟩) n k) (.slice (some ⟨c,p,none⟩) n k')→GivesX P n0 σ w (Builtin.append_ #[t,u] ty #[.slice (some ⟨c,p,none⟩) n k',x']) (.slice (some ⟨b,o,none⟩) n k) H b:=by
   intro c d m p k' hσ hk' hv
   have:=qqi_ (ty:=ty) w he hd hni hi (base:=some ⟨c,p,none⟩) (sLen:=n) (sCap:=k') hlen hfc0 (by omega) (w':=w) (fun a ha=>by rw[hn0]; simp[storeCells]) (fun h=>by cases h)
   exact⟨_,σ,w,by rw[this,hr0]; rfl,hv,hr,Step.refl _ _ _ _,c,d,m,hσ,fun _ _ _=>rfl,fun _ _ _ _ h=>.inl h⟩
  generalize hkk:k=kk at hs
  cases hs with
  | @slice _ c d m _ _ _ hσ hk hn9=>subst hkk; exact fin c d m _ k hσ hnk (.slice o n k hσ hk hn9)
  | @sliceU _ c d m _ o' _ k' es hσ hk ho hdd hm hes=>subst hkk; exact fin c d m o' k' hσ hk (.sliceU o o' n k' es hσ hk ho hdd hm hes)
  | @sliceL _ c d m _ _ k' es lb hσ hk hl hm hes=>subst hkk; rw[notL_L hes] at hnl; cases hnl
 ·have hr0:=qf4_ hr0
  obtain⟨y,hy,h⟩:=oS h
  have hyb:=qds_ hy
  unfold qw5_ at h
  obtain⟨old,hold,h⟩:=oS h
  have holdl:=(qvf_ _ _ _ _ hold).1
  have hfirst:∀ {c d m o' k':Nat},σ b=some (c,d,m)→(n=0∨o'=d+o)→∃ old',VRs σ old old'∧(∀ j v',old'[j]?=some v'→w.cell? ⟨c,o' + j,none⟩=some v')∧∀ k,(Builtin.firstCells i.size n (.slice (some ⟨c,o',none⟩) n k')).run P (World.at w k)=.ok ⟨old'⟩ (World.at w k):=by
   intro c d m o' k' hσ ho
   by_cases hn:n=0
   ·subst hn
    have hl0:old=[]:=List.length_eq_zero_iff.1 (by rw[holdl]; simp)
    subst hl0
    refine⟨[],.nil,fun j v' hj=>by simp at hj,fun k=>?_⟩
    rw[show Builtin.firstCells i.size 0 (.slice (some ⟨c,o',none⟩) 0 k')=loadCells ⟨c,o',none⟩ (0*i.size) from rfl,Nat.zero_mul]; rfl
   ·have ho:=ho.resolve_left hn
    subst ho
    obtain⟨l',h1,h2⟩:=hr.reads hyb hσ _ _ _ hold
    refine⟨l',h1,fun j v' hj=>?_,fun k=>?_⟩
    ·have:=h2 j v' hj; rwa [Nat.add_assoc]
    ·have hlen:n*i.size=l'.length:=by rw[←h1.length,holdl]; rfl
     simp only[Builtin.firstCells]
     unfold loadCells
     rw[hlen,qef_ l' 0 #[] fun j v hv=>?_]
     ·simp
     ·have:=h2 j v hv
      rw[show d+o+(0+j)=d+(o+j) from by omega]
      exact this
  have grows:∀ {H₀:AH} (hr₀:HR n0 σ H₀ w) {c d m o' k':Nat},σ b=some (c,d,m)→(n=0∨o'=d+o)→k' < n+r.1→fits (Nat.add n r.1) i.bytes=true →
    ∃ v' σ' w',(Builtin.append_ #[t,u] ty #[.slice (some ⟨c,o',none⟩) n k',x']).run P w=.ok v' w'∧VR σ' (.slice (some ⟨H₀.next,0,none⟩) (Nat.add n r.1) (Nat.add big i.size)) v'∧HR n0 σ' (H₀.push (.cells (layT (old++r.2)) e)) w'∧Step n0 σ w H₀.low σ' w' ∧
     ∃ k d m,σ b=some (k,d,m)∧(∀ q,q<w.heap.size→q ≠ k→w'.heap[q]?=w.heap[q]?)∧∀ b' c d' m',σ' b'=some (c,d',m')→σ b'=some (c,d',m')∨c=k∨w.heap.size≤c:=by
   intro H₀ hr₀ c d m o' k' hσ ho hk' hf
   simp only[fits,bA] at hf
   have f1:(n+r.1)*i.bytes≤140737488355328:=qd1_ hf.1
   have f2:n+r.1≤9223372036854775807:=qd1_ hf.2
   obtain⟨old',hov,_,hof⟩:=hfirst (k':=k') hσ ho
   have run:=q1e_ (ty:=ty) w he hd hni hi hiz (base:=some ⟨c,o',none⟩) (sLen:=n) (sCap:=k') hlen hfc hof hk' f2 (growslice_fits hk' f1)
   have hg:=qpl_ w (n+r.1) k' e
   generalize hG:grownCap w (n+r.1) k' e=G at run hg
   have hzs:(Builtin.zeroCells zv.cells (G-(n+r.1))).size=(G-(n+r.1))*i.size:=by simp[Builtin.zeroCells,hzc,hzl]
   have hol':old'.length=n*i.size:=by rw[←hov.length,holdl]; rfl
   have hm:(old' ++ new').length+(Builtin.zeroCells zv.cells (G-(n+r.1))).size=G*i.size:=by
    rw[hzs,List.length_append,hol',hnl',←Nat.add_mul,←Nat.add_mul]; congr 1; omega
   obtain⟨h1,h2⟩:=qym_ hr₀.drew (hov.append hnew) e (Builtin.zeroCells zv.cells (G-(n+r.1))) _ hm.symm
   refine⟨.slice (some ⟨w.heap.size,0,none⟩) (n+r.1) G,_,_,?_,?_,h1,h2.of_drew,c,d,m,hσ,fun q hq _=>?_,put_new (P:=fun g=>g=c∨w.heap.size≤g) (.inr (Nat.le_refl _))⟩
   ·rw[run]; simp
   ·have:=VR.sliceU (σ:=σ.put H₀.next (w.drew.heap.size,0,G*i.size)) 0 0 (n+r.1) G i.size (Ren.put_self _ _ _) hg (.inr rfl) (Nat.le_refl _) (by omega) hszb
    simpa using this
   ·exact Below.heap_alloc w.drew _ q hq
  rcases qa_ h with⟨hkb,h⟩ | ⟨hkb,h⟩
  ·have hkb:=qfr_ hkb
   generalize hkk:k=kk at hs
   cases hs with
   | @sliceU _ c d m _ o' _ k' es hσ hk ho hdd hm=>subst hkk; omega
   | @sliceL _ c d m _ _ k' es lb hσ hk hl hm hes=>subst hkk; rw[notL_L hes] at hnl; cases hnl
   | @slice _ c d m _ _ _ hσ hk _=>
    subst hkk
    rcases qa_ h with⟨hroom,h⟩ | ⟨hroom,h⟩
    ·have hroom:n+r.1≤k:=qd1_ hroom
     obtain⟨H₁,hst,h⟩:=oS h
     obtain⟨rfl,rfl⟩:=pI (oI h)
     obtain⟨w',q1,q2,q3,q4⟩:=qy1_ (P:=P) hr hst hnew hσ (o':=d+o+n*i.size) (i:=0) (by show d+o+n*i.size+0=d+(o+n*i.size); omega)
     have run:=qqi_ (ty:=ty) w he hd hni hi (base:=some ⟨c,d+o,none⟩) (sLen:=n) (sCap:=k) hlen hfc0 hroom (w':=w') (fun a ha=>by
      obtain rfl:=oI ha
      rw[qfe_]; exact q1) (fun h=>by cases h)
     exact⟨_,σ,w',run,VR.slice o (n+r.1) k hσ hk hroom,q2,q3,c,d,m,hσ,fun q _ hq=>q4 q hq,fun _ _ _ _ h=>.inl h⟩
    ·obtain⟨hf,h⟩:=sel_none h
     obtain⟨rfl,rfl⟩:=pI (oI h)
     have hroom:k<n+r.1:=by
      rcases Nat.lt_or_ge k (n+r.1) with h | h
      ·exact h
      ·have:Nat.ble (Nat.add n r.1) k=true:=Nat.ble_eq_true_of_le h
       rw[this] at hroom; cases hroom
     exact grows hr hσ (.inr rfl) hroom hf
  ·obtain⟨hc,h⟩:=sel_none h
   obtain⟨rfl,rfl⟩:=pI (oI h)
   simp only[bA] at hc
   obtain⟨⟨⟨⟨hc1,hc2⟩,hc3⟩,hc4⟩,hc5⟩:=hc
   have hc1:=nB hc1
   have hc2:=nB hc2
   generalize hkk:k=kk at hs
   cases hs with
   | @slice _ c d m _ _ _ hσ hk _=>subst hkk; rw[hc1] at hk; exact absurd hk (Nat.not_lt.2 (Nat.le_add_right _ _))
   | @sliceL _ c d m _ _ k' es lb hσ hk hl hm hes=>subst hkk; rw[notL_L hes] at hnl; cases hnl
   | @sliceU _ c d m _ o' _ k' es hσ hk ho hdd hm hes=>
    obtain rfl:es=i.size:=(by have q:Nat.add big i.size=big+i.size:=rfl; omega)
    by_cases hroom:n+r.1≤k'
    ·obtain⟨old',hov,hoc,hof⟩:=hfirst (k':=k') hσ ho
     obtain⟨hcn,C,q1,q2,q3⟩:=hr.block hyb hσ
     have e1:(n+r.1)*i.size≤k' * i.size:=Nat.mul_le_mul_right _ hroom
     have e2:(n+r.1)*i.size=n*i.size+r.1*i.size:=Nat.add_mul _ _ _
     have hol':old'.length=n*i.size:=by rw[←hov.length,holdl]; rfl
     obtain⟨w',C',s1,s2,s3,s4,s5,s6,s7⟩:=qvj_ (P:=P) (c:=c) (p:=o' + n*i.size) new' 0 w C q1 (isCells_of hnew hc4) (by omega)
     have run:=qqi_ (ty:=ty) w he hd hni hi (base:=some ⟨c,o',none⟩) (sLen:=n) (sCap:=k') hlen hfc0 hroom (w':=w') (fun a ha=>by
      obtain rfl:=oI ha
      rw[qfe_]; exact s1) (fun h=>by cases h)
     have hin:∀ j v',(old' ++ new')[j]?=some v'→C'[o' + j]?=some v':=stored_all q1 s4 hoc (by omega) (by omega)
     obtain⟨g1,g2⟩:=hr.growIn (b:=b) hyb hσ (o':=o') (hov.append hnew) (w':=w') (C':=C') s2 (by rw[s3,q2]) hin s5 s6 (s7 n0.n.n hcn.1)
     rw[hc2] at g1
     exact⟨_,_,w',run,grown_vr hσ hroom hm hszb,g1,g2,c,d,m,hσ,fun q _ hq=>s5 q hq,put_new (P:=fun g=>g=c∨w.heap.size≤g) (.inl rfl)⟩
    ·obtain⟨v',σ',w',p1,p2,p3,p4,p5⟩:=grows (hr.kill b H.low) (k':=k') hσ ho (Nat.lt_of_not_le hroom) hc3
     exact⟨v',σ',w',p1,p2,HR.growOut hr b p3,p4.lower (Nat.min_le_left _ _),p5⟩
noncomputable def sliceBlk (v:Value):Option Nat:=oc (qjp_ v) none fun a=>some a.1
theorem weakL_some {b o n k:Nat}:∃ k',weakL (.slice (some ⟨b,o,none⟩) n k)=.slice (some ⟨b,o,none⟩) n k':=by
 show ∃ k',sel (Nat.ble (Nat.div k big) 1) (Value.slice (some ⟨b,o,none⟩) n k) (Value.slice (some ⟨b,o,none⟩) n (Nat.add big (Nat.mod k big)))=_
 cases Nat.ble (Nat.div k big) 1
 ·exact⟨_,rfl⟩
 ·exact⟨_,rfl⟩
theorem append_exact {P:Program}{n0:Bs}{σ:Ren}{H H':AH}{w:World}(hr:HR n0 σ H w){t u ty:TypeId}{s s' x x' v:Value}{b:Nat}(h:qk6_ P t u s x H=some (v,H'))(hs:VR σ s s')(hx:VR σ x x')(hb:sliceBlk s=some b) :
  GivesX P n0 σ w (Builtin.append_ #[t,u] ty #[s',x']) v H' b:=by
 obtain⟨a,ha,hb⟩:=oS hb
 obtain rfl:=oI hb
 have hse:=qpk_ ha
 have hz:q1g_ s x=none:=by rw[hse]; rfl
 unfold qk6_ at h
 rw[hz] at h
 have h:qvl_ P t u s x H=some (v,H'):=h
 obtain⟨e,he,h⟩:=oS h
 obtain⟨d,hd,h⟩:=oS h
 obtain⟨z,hz,h⟩:=oS h
 obtain⟨sz,hsz,h⟩:=oS h
 obtain⟨bs,hbs,h⟩:=oS h
 obtain⟨hb,h⟩:=sel_none h
 obtain⟨r,hsrc,h⟩:=oS h
 simp only[bA] at hb
 have hni:=notInt_ne hb.1.1
 have hzl:=nB hb.1.2
 have hszb:=qfr_ hb.2
 have he:=qgn_ he
 obtain⟨i,zv,hi,hiz,hzc,hzf⟩:=qvk_ hz
 obtain rfl:i.size=sz:=by
  obtain⟨i',hi',q⟩:=oS hsz
  rw[hi] at hi'
  obtain rfl:=oI hi'
  exact oI q
 obtain rfl:i.bytes=bs:=by
  obtain⟨i',hi',q⟩:=oS hbs
  rw[hi] at hi'
  obtain rfl:=oI hi'
  exact oI q
 obtain⟨new',hnew,hnl,hlen,hfc⟩:=srcB_ok (P:=P) hr hsrc hx
 have hlen:=hlen w
 have hfc0:(Builtin.firstCells i.size r.1 x').run P w=.ok ⟨new'⟩ w:=hfc w.drawn
 have hnl':new'.length=r.1*i.size:=by rw[←hnew.length]; exact hnl
 unfold q1f_ at h
 cases hro:roomL i.size r s with
 | none=>
  rw[hro] at h
  have h:appGo H i.size e i.bytes r (weakL s)=some (v,H'):=h
  have hw:=weakL_vr hs
  have hn:=q1d_ s
  rw[hse] at h hw hn
  obtain⟨k',hk'⟩:=weakL_some (b:=a.1) (o:=a.2.1) (n:=a.2.2.1) (k:=a.2.2.2)
  rw[hk'] at h hw hn
  exact appSome_exact hr he hd hni hi hiz hzc hzl hnew hnl' hlen hfc hfc0 hw hn hszb h
 | some p=>
  rw[hro] at h
  obtain⟨a',ha',hro⟩:=oS hro
  rw[ha] at ha'
  obtain rfl:=oI ha'
  obtain⟨q,hq,hro⟩:=oS hro
  obtain⟨hb,hro⟩:=sel_none hro
  obtain rfl:=oI hro
  simp only[bA] at hb
  have hroom:a.2.2.1+r.1≤q.2:=qd1_ hb.1
  rw[hse] at hs
  obtain⟨c,d',m,k',rfl,h1,h2,h3,h4,h5⟩:=capL_vr hq hs
  obtain⟨H₁,hst,h⟩:=oS h
  obtain⟨rfl,rfl⟩:=pI (oI h)
  obtain⟨w',q1,q2,q3,q4⟩:=qy1_ (P:=P) hr hst hnew h1 (o':=d' + a.2.1+a.2.2.1*i.size) (i:=0) (by show d' + a.2.1+a.2.2.1*i.size+0=d' + (a.2.1+a.2.2.1*i.size); omega)
  have run:=qqi_ (ty:=ty) w he hd hni hi (base:=some ⟨c,d' + a.2.1,none⟩) (sLen:=a.2.2.1) (sCap:=k') hlen hfc0 (by omega) (w':=w') (fun x hx=>by
   obtain rfl:=oI hx
   rw[qfe_]; exact q1) (fun h=>by cases h)
  exact⟨_,σ,w',run,VR.sliceL a.2.1 (a.2.2.1+r.1) k' q.1 q.2 h1 (by omega) h3 h4 h5,q2,q3,c,d',m,h1,fun q _ hq=>q4 q hq,fun _ _ _ _ h=>.inl h⟩
end Go.Proofs.YthlikofobjhcoaaGreat.Ax
namespace Go.Proofs.YthlikofobjhcoaaGreat.Ax
open Go.RowKit
variable [Tabs]
def u8L:List UInt8→List UInt8→Bool
 | [],[]=>true
 | a::l,b::k=>Nat.beq a.toNat b.toNat&&u8L l k
 | _,_=>false
theorem u8L_eq:∀ {l k:List UInt8},u8L l k=true→l=k
 | [],[],_=>rfl
 | [],_::_,h=>by cases h
 | _::_,[],h=>by cases h
 | a::l,b::k,h=>by
  simp only[u8L,bA] at h
  rw[UInt8.toNat_inj.1 (nB h.1),u8L_eq h.2]
def bytesEq (a b:ByteArray):Bool:=u8L a.data.toList b.data.toList
theorem bytesEq_eq {a b:ByteArray}(h:bytesEq a b=true):a=b:=by
 cases a with
 | mk x=>
  cases b with
  | mk y=>
   have:=u8L_eq h
   simp only at this
   congr 1
   cases x; cases y
   simpa using this
def intEq (a b:Int):Bool:=
 match a with
 | .ofNat x=>(match b with
  | .ofNat y=>Nat.beq x y
  | _=>false)
 | .negSucc x=>(match b with
  | .negSucc y=>Nat.beq x y
  | _=>false)
theorem intEq_eq {a b:Int}(h:intEq a b=true):a=b:=by
 unfold intEq at h
 split at h<;>split at h<;>first | (rw[nB h]) | cases h
def optEq (a b:Option Nat):Bool:=
 match a with
 | none=>(match b with
  | none=>true
  | _=>false)
 | some x=>(match b with
  | some y=>Nat.beq x y
  | _=>false)
theorem optEq_eq {a b:Option Nat}(h:optEq a b=true):a=b:=by
 unfold optEq at h
 split at h<;>split at h<;>first | rfl | (rw[nB h]) | cases h
def addrEq (a b:Option Addr):Bool:=
 match a with
 | none=>(match b with
  | none=>true
  | _=>false)
 | some x=>(match b with
  | some y=>Nat.beq x.block y.block&&(Nat.beq x.off y.off&&optEq x.spot y.spot)
  | _=>false)
theorem addrEq_eq {a b:Option Addr}(h:addrEq a b=true):a=b:=by
 unfold addrEq at h
 split at h<;>split at h
 ·rfl
 ·cases h
 ·rename_i x _ y
  simp only[bA] at h
  cases x; cases y
  simp only at h
  rw[nB h.1,nB h.2.1,optEq_eq h.2.2]
 ·cases h
def veqL (f:Value→Value→Bool):List Value→List Value→Bool
 | [],[]=>true
 | a::l,b::k=>f a b&&veqL f l k
 | _,_=>false
theorem qy2_ {f:Value→Value→Bool}(hf:∀ a b,f a b=true→a=b):∀ {l k:List Value},veqL f l k=true→l=k
 | [],[],_=>rfl
 | [],_::_,h=>by cases h
 | _::_,[],h=>by cases h
 | a::l,b::k,h=>by
  simp only[veqL,bA] at h
  rw[hf _ _ h.1,qy2_ hf h.2]
theorem arr_eq {x y:Array Value}(h:x.toList=y.toList):x=y:=by cases x; cases y; simpa using h
def isBool (b:Bool)(v:Value):Bool:=
 match v with
 | .bool c=>(match b with
  | true=>c
  | false=>!c)
 | _=>false
theorem isBool_eq {b:Bool}{v:Value}(h:isBool b v=true):Value.bool b=v:=by
 cases v with
 | bool c=>cases b<;>cases c<;>first | rfl | cases h
 | _=>cases h
def isInt (k:IntKind)(a:Int)(v:Value):Bool:=
 match v with
 | .int k' b=>kindEq k k' && intEq a b
 | _=>false
def isStr (s:ByteArray)(v:Value):Bool:=
 match v with
 | .string t=>bytesEq s t
 | _=>false
def isPtr (a:Option Addr)(v:Value):Bool:=
 match v with
 | .pointer b=>addrEq a b
 | _=>false
def isSl (a:Option Addr)(n k:Nat)(v:Value):Bool:=
 match v with
 | .slice b n' k'=>addrEq a b&&(Nat.beq n n' && Nat.beq k k')
 | _=>false
def isMp (a:Option Nat)(v:Value):Bool:=
 match v with
 | .map b=>optEq a b
 | _=>false
def isNf (v:Value):Bool:=
 match v with
 | .nilFunc=>true
 | _=>false
def isNi (v:Value):Bool:=
 match v with
 | .nilIface=>true
 | _=>false
def isAgg (f:Value→Value→Bool)(x:List Value)(v:Value):Bool:=
 match v with
 | .agg y=>veqL f x y.toList
 | _=>false
def isTup (f:Value→Value→Bool)(x:List Value)(v:Value):Bool:=
 match v with
 | .tuple y=>veqL f x y.toList
 | _=>false
def isIf (f:Value→Value→Bool)(t:TypeId)(u v:Value):Bool:=
 match v with
 | .iface t' u'=>Nat.beq t t' && f u u'
 | _=>false
def fnNum (f:Fn):Option Nat:=
 match f with
 | .func g=>some g
 | _=>none
theorem q1o_ {f:Fn}{g:Nat}(h:fnNum f=some g):f=.func g:=by
 unfold fnNum at h
 split at h
 ·injection h with h; rw[h]
 ·cases h
noncomputable def sameFn (f g:Fn):Bool:=oc (fnNum f) false fun a=>oc (fnNum g) false fun b=>Nat.beq a b
theorem sameFn_eq {f g:Fn}(h:sameFn f g=true):f=g:=by
 unfold sameFn at h
 cases hf:fnNum f with
 | none=>rw[hf] at h; cases h
 | some a=>
  cases hg:fnNum g with
  | none=>rw[hf,hg] at h; cases h
  | some b=>
   rw[hf,hg] at h
   rw[q1o_ hf,q1o_ hg,nB h]
noncomputable def isFn (f:Value→Value→Bool)(g:Fn)(x y:List Value)(v:Value):Bool:=
 match v with
 | .func g' x' y'=>sameFn g g' && (veqL f x x'.toList&&veqL f y y'.toList)
 | _=>false
def isCh (r:Option Nat)(v:Value):Bool:=
 match r with
 | none=>(match v with
  | .chan none=>true
  | _=>false)
 | some n=>(match v with
  | .chan (some m)=>Nat.beq n m
  | _=>false)
theorem isCh_eq {r:Option Nat}{v:Value}(h:isCh r v=true):.chan r=v:=by
 unfold isCh at h
 split at h
 ·split at h
  ·rfl
  ·cases h
 ·split at h
  ·rw[nB h]
  ·cases h
noncomputable def veqN (f:Value→Value→Bool)(v v':Value):Bool:=
 match v with
 | .bool b=>isBool b v'
 | .int k n=>isInt k n v'
 | .string s=>isStr s v'
 | .pointer a=>isPtr a v'
 | .slice a n k=>isSl a n k v'
 | .map r=>isMp r v'
 | .nilFunc=>isNf v'
 | .nilIface=>isNi v'
 | .iface t u=>isIf f t u v'
 | .agg x=>isAgg f x.toList v'
 | .tuple x=>isTup f x.toList v'
 | .func g x y=>isFn f g x.toList y.toList v'
 | .chan r=>isCh r v'
 | _=>false
theorem veqN_eq {f:Value→Value→Bool}(hf:∀ a b,f a b=true→a=b){v v':Value}(h:veqN f v v'=true):v=v':=by
 unfold veqN at h
 split at h
 ·exact isBool_eq h
 ·unfold isInt at h
  split at h
  ·simp only[bA] at h
   rw[q1b_ h.1,intEq_eq h.2]
  ·cases h
 ·unfold isStr at h
  split at h
  ·rw[bytesEq_eq h]
  ·cases h
 ·unfold isPtr at h
  split at h
  ·rw[addrEq_eq h]
  ·cases h
 ·unfold isSl at h
  split at h
  ·simp only[bA] at h
   rw[addrEq_eq h.1,nB h.2.1,nB h.2.2]
  ·cases h
 ·unfold isMp at h
  split at h
  ·rw[optEq_eq h]
  ·cases h
 ·unfold isNf at h
  split at h
  ·rfl
  ·cases h
 ·unfold isNi at h
  split at h
  ·rfl
  ·cases h
 ·unfold isIf at h
  split at h
  ·simp only[bA] at h
   rw[nB h.1,hf _ _ h.2]
  ·cases h
 ·unfold isAgg at h
  split at h
  ·rw[arr_eq (qy2_ hf h)]
  ·cases h
 ·unfold isTup at h
  split at h
  ·rw[arr_eq (qy2_ hf h)]
  ·cases h
 ·unfold isFn at h
  split at h
  ·simp only[bA] at h
   rw[sameFn_eq h.1,arr_eq (qy2_ hf h.2.1),arr_eq (qy2_ hf h.2.2)]
  ·cases h
 ·exact isCh_eq h
 ·cases h
noncomputable def veqF (n:Nat):Value→Value→Bool:=@Nat.rec (fun _=>Value→Value→Bool) (fun _ _=>false) (fun _ ih=>veqN ih) n
theorem veqF_eq:∀ (n:Nat) (a b:Value),veqF n a b=true→a=b
 | 0,_,_,h=>by cases h
 | n+1,a,b,h=>veqN_eq (veqF_eq n) h
noncomputable def veq:Value→Value→Bool:=veqF 9
theorem qy3_ {a b:Value}(h:veq a b=true):a=b:=veqF_eq 9 a b h
noncomputable def veqO (a b:Option Value):Bool:=oc a (oc b true fun _=>false) fun x=>oc b false fun y=>veq x y
theorem veqO_eq {a b:Option Value}(h:veqO a b=true):a=b:=by
 unfold veqO at h
 cases a<;>cases b<;>first | rfl | (rw[qy3_ h]) | cases h
noncomputable def trEq (t:Tr Value):Tr Value→Bool:=
 @Tr.rec Value (fun _=>Tr Value→Bool) (fun u=>match u with | .nil=>true | _=>false)
  (fun _ v _ ihl ihr u=>match u with | .nil=>false | .node l w r=>veqO v w&&(ihl l&&ihr r)) t
theorem trEq_eq:∀ {t u:Tr Value},trEq t u=true→t=u
 | .nil,.nil,_=>rfl
 | .nil,.node _ _ _,h=>by cases h
 | .node _ _ _,.nil,h=>by cases h
 | .node a v b,.node l w r,h=>by
  have h:(veqO v w&&(trEq a l&&trEq b r))=true:=h
  simp only[bA] at h
  rw[veqO_eq h.1,trEq_eq h.2.1,trEq_eq h.2.2]
noncomputable def entEq (l:List MapEntry):List MapEntry→Bool:=
 @List.rec MapEntry (fun _=>List MapEntry→Bool) (fun k=>match k with | []=>true | _=>false)
  (fun a _ ih k=>match k with | []=>false | b::k=>veq a.key b.key&&(veq a.val b.val&&(Nat.beq a.born b.born&&ih k))) l
theorem entEq_eq:∀ {l k:List MapEntry},entEq l k=true→l=k
 | [],[],_=>rfl
 | [],_::_,h=>by cases h
 | _::_,[],h=>by cases h
 | a::l,b::k,h=>by
  have h:(veq a.key b.key&&(veq a.val b.val&&(Nat.beq a.born b.born&&entEq l k)))=true:=h
  simp only[bA] at h
  obtain⟨h1,h2,h3,h4⟩:=h
  rw[entEq_eq h4]
  cases a; cases b
  simp only at h1 h2 h3
  rw[qy3_ h1,qy3_ h2,nB h3]
noncomputable def sameBlk (x y:ABlk):Bool:=
 match x with
 | .cells c e=>(match y with
  | .cells d f=>Nat.beq e f&&trEq c d
  | _=>false)
 | .map es k=>(match y with
  | .map fs m=>Nat.beq k m&&entEq es fs
  | _=>false)
 | .zeros n e=>(match y with
  | .zeros m f=>Nat.beq n m&&Nat.beq e f
  | _=>false)
 | _=>false
theorem sameBlk_eq {x y:ABlk}(h:sameBlk x y=true):x=y:=by
 unfold sameBlk at h
 cases x with
 | cells c e=>
  cases y with
  | cells d f=>
   simp only[bA] at h
   rw[nB h.1,trEq_eq h.2]
  | _=>cases h
 | map es k=>
  cases y with
  | map fs m=>
   simp only[bA] at h
   rw[nB h.1,entEq_eq h.2]
  | _=>cases h
 | zeros n e=>
  cases y with
  | zeros m f=>
   simp only[bA] at h
   rw[nB h.1,nB h.2]
  | _=>cases h
 | _=>cases h
noncomputable def sameAt (H H':AH)(b:Nat):Bool:=oc (H.blocks.get b) false fun x=>oc (H'.blocks.get b) false fun y=>sameBlk x y
theorem sameAt_spec {H H':AH}{b:Nat}(h:sameAt H H' b=true):∃ x,H.blocks.get b=some x∧H'.blocks.get b=some x:=by
 unfold sameAt at h
 cases h1:H.blocks.get b with
 | none=>rw[h1] at h; cases h
 | some x=>
  cases h2:H'.blocks.get b with
  | none=>rw[h1,h2] at h; cases h
  | some y=>
   rw[h1,h2] at h
   exact⟨x,rfl,by rw[sameBlk_eq h]⟩
end Go.Proofs.YthlikofobjhcoaaGreat.Ax
namespace Go.Proofs.YthlikofobjhcoaaGreat.Ax
open Go.RowKit
variable [Tabs]
def isIns (op:Op):Bool:=
 match op with
 | .insert _ _ _ _=>true
 | _=>false
def isCh2 (op:Op):Bool:=isChg op && !(isIns op)
def insTmp (op:Op):Option Nat:=
 match op with
 | .insert _ (.tmp d) _ _=>some d
 | _=>none
def defOf (l:List Oper)(d:Nat):Nat→Option Nat
 | 0=>none
 | j+1=>
  match l[j]? with
  | some o=>(match o.dst with
   | some e=>cond (Nat.beq e d) (some j) (defOf l d j)
   | none=>defOf l d j)
  | none=>none
def insGo (all:List Oper):List Oper→Nat→List (Nat×Nat)
 | [],_=>[]
 | o::l,j=>
  match insTmp o.op with
  | none=>insGo all l (j+1)
  | some d=>
   match defOf all d j with
   | none=>insGo all l (j+1)
   | some f=>(j,f)::insGo all l (j+1)
def findI:List (Nat×Nat)→Nat→Option Nat
 | [],_=>none
 | q::l,j=>cond (Nat.beq q.1 j) (some q.2) (findI l j)
def qqk_ (ms:List Nat):List Edge→Nat
 | []=>0
 | e::l=>cond (Region.binds .any e) ((2 ^ e.on ||| ms.getD e.on 0) ||| qqk_ ms l) (qqk_ ms l)
def maskGo:List Oper→List Nat→List Nat
 | [],ms=>ms
 | o::l,ms=>maskGo l (ms ++ [qqk_ ms o.after.toList])
def countGo:List Oper→Nat→List Nat
 | [],c=>[c]
 | o::l,c=>c::countGo l (cond (isCh2 o.op) (c+1) c)
def inMask (m:Nat):List Oper→Nat→Nat
 | [],_=>0
 | o::l,i=>cond (isCh2 o.op&&m.testBit i) (inMask m l (i+1)+1) (inMask m l (i+1))
def chgAt (ops:List Oper)(i:Nat):Bool:=
 match ops[i]? with
 | some o=>isCh2 o.op
 | none=>false
def insAt (ops:List Oper)(i:Nat):Bool:=
 match ops[i]? with
 | some o=>isIns o.op
 | none=>false
def fltAt (ops:List Oper)(i:Nat):Bool:=
 match ops[i]? with
 | some o=>isFlt o.op
 | none=>false
def apartAt (ops:List Oper)(i j:Nat):Bool:=
 match ops[i]?,ops[j]? with
 | some x,some y=>Oper.apart ⟨ops⟩ x y
 | _,_=>false
def qvr_ (ms:List Nat)(i j:Nat):Bool:=(ms.getD j 0).testBit i
def newFs (ms:List Nat)(ops:List Oper)(j:Nat):List Nat:=
 (List.range j).filter fun f=>fltAt ops f&&qvr_ ms f j && !((List.range j).any fun i=>chgAt ops i&&qvr_ ms i j&&qvr_ ms f i)
def looksAt (ops:List Oper)(i:Nat):Bool:=
 match ops[i]? with
 | some o=>
  (match o.op with
  | .convert _ _ _=>true
  | .lookup _ _ _ _=>true
  | .load _ _=>true
  | .call _=>true
  | .binOp _ _ _ _ _=>true
  | _=>isCh2 o.op)
 | none=>false
def finFs (ms:List Nat)(ops:List Oper):List Nat:=
 (List.range ops.length).filter fun f=>fltAt ops f && !((List.range ops.length).any fun i=>chgAt ops i&&qvr_ ms f i)
def widthGo:List Oper→Nat→Nat→Nat
 | [],_,w=>w
 | o::l,i,w=>widthGo l (i+1) (cond (isFlt o.op) (i+1) w)
structure Plan where
 ms:List Nat
 ns:List Nat
 cs:List Nat
 fs:List (List Nat)
 fin:List Nat
 wd:Nat
 is:List (Nat×Nat)
def qsi_ (ops:List Oper):Plan:=⟨maskGo ops [],countGo ops 0,(maskGo ops []).map fun m=>inMask m ops 0,(List.range ops.length).map (fun j=>cond (looksAt ops j) (newFs (maskGo ops []) ops j) []),finFs (maskGo ops []) ops,widthGo ops 0 0,insGo ops ops 0⟩
def Plan.m (p:Plan)(j:Nat):Nat:=p.ms.getD j 0
def Plan.n (p:Plan)(j:Nat):Nat:=p.ns.getD j 0
def Plan.c (p:Plan)(j:Nat):Nat:=p.cs.getD j 0
def Plan.f (p:Plan)(j:Nat):List Nat:=p.fs.getD j []
def Plan.before (p:Plan)(i j:Nat):Bool:=(p.m j).testBit i
def pairOk (p:Plan)(ops:List Oper)(j i:Nat):Bool:=
 (p.before i j||apartAt ops i j)&&(!(chgAt ops i)||(p.before i j == Nat.blt (p.n i) (p.c j)))
def edgesOk (j:Nat)(l:List Edge):Bool:=l.all fun e=>!(Region.binds .any e)||Nat.blt e.on j
def qz1_ (p:Plan)(ops:List Oper)(f c:Nat):Bool:=(List.range ops.length).any fun i=>chgAt ops i&&Nat.blt (p.n i) c&&p.before f i
def newOk (p:Plan)(ops:List Oper)(j f:Nat):Bool:=Nat.blt f j&&p.before f j && !(qz1_ p ops f (p.c j))&&fltAt ops f
def rowOk (p:Plan)(ops:List Oper)(j:Nat):Bool:=
 match ops[j]? with
 | none=>false
 | some o=>edgesOk j o.after.toList&&Nat.beq (p.m j) (qqk_ p.ms o.after.toList)&&Nat.beq (p.n (j+1)) (cond (isCh2 o.op) (p.n j+1) (p.n j))&&Nat.ble (p.c j) (p.n j)&&(!(isCh2 o.op)||Nat.beq (p.c j) (p.n j))&&(List.range j).all (pairOk p ops j)&&(p.f j).all (newOk p ops j)&&(!(isFlt o.op)||Nat.blt j p.wd)
def finOk (p:Plan)(ops:List Oper)(f:Nat):Bool:=Nat.blt f ops.length && !(qz1_ p ops f (p.n ops.length))&&fltAt ops f
def insOkP (p:Plan)(ops:List Oper)(q:Nat×Nat):Bool:=Nat.blt q.1 ops.length&&Nat.blt q.2 q.1&&fltAt ops q.2&&insAt ops q.1&&p.before q.2 q.1&&(List.range ops.length).all (fun i=>(!(chgAt ops i&&p.before q.2 i)||p.before q.1 i)&&(!((p.f i).any fun f=>Nat.beq f q.2)||p.before q.1 i))&&p.is.all fun r=>!(Nat.beq r.2 q.2)||Nat.beq r.1 q.1||p.before r.1 q.1||p.before q.1 r.1
def drawOk (p:Plan)(N:Nat)(ops:List Oper):Bool:=qsg_ N ops&&Nat.beq (p.n 0) 0&&(List.range ops.length).all (rowOk p ops)&&p.fin.all (finOk p ops)&&p.is.all (insOkP p ops)
noncomputable def wideB (H:AH):AH:=⟨H.blocks,big,big⟩
noncomputable def addB (g:Nat→Option ABlk)(base:Nat)(fs:List Nat)(B:Tr ABlk):Tr ABlk:=
 @List.rec Nat (fun _=>Tr ABlk) B (fun f _ ih=>oc (g f) ih fun x=>ih.set (Nat.add base f) x) fs
noncomputable def addFs (g:Nat→Option ABlk)(base:Nat)(fs:List Nat)(H:AH):AH:=⟨addB g base fs H.blocks,H.next,H.low⟩
theorem addB_congr {g g':Nat→Option ABlk}{base:Nat}{B:Tr ABlk}:∀ {fs:List Nat},(∀ f∈fs,g f=g' f)→addB g base fs B=addB g' base fs B
 | [],_=>rfl
 | f::fs,h=>by
  show oc (g f) (addB g base fs B) (fun x=>(addB g base fs B).set (Nat.add base f) x)=oc (g' f) (addB g' base fs B) (fun x=>(addB g' base fs B).set (Nat.add base f) x)
  rw[h f (.head _),addB_congr fun x hx=>h x (.tail _ hx)]
theorem qwo_ {g g':Nat→Option ABlk}{base:Nat}{H:AH}{fs:List Nat}(h:∀ f∈fs,g f=g' f):addFs g base fs H=addFs g' base fs H:=by
 unfold addFs; rw[addB_congr h]
def blkOf (v:Value):List Nat:=
 match v with
 | .pointer (some ⟨b,_,none⟩)=>[b]
 | .slice (some ⟨b,_,none⟩) _ _=>[b]
 | .map (some b)=>[b]
 | _=>[]
noncomputable def rdsOp (T:Tr Value)(op:Op):List Nat:=
 match op with
 | .load _ x=>blkOf (ev T x)
 | .binOp _ _ x y _=>blkOf (ev T x)++blkOf (ev T y)
 | .convert _ _ x=>blkOf (ev T x)
 | .lookup _ x _ _=>blkOf (ev T x)
 | .call c=>(match c.args.toList with
  | [x]=>blkOf (ev T x)
  | _=>[])
 | _=>[]
noncomputable def pickB (B:Tr ABlk)(bs:List Nat):Tr ABlk:=@List.rec Nat (fun _=>Tr ABlk) .nil (fun b _ ih=>oc (B.get b) ih fun x=>ih.set b x) bs
noncomputable def oneB (bs:List Nat)(H:AH):AH:=⟨pickB H.blocks bs,big,big⟩
theorem qou_ {B:Tr ABlk}{b:Nat}{x:ABlk}:∀ {bs:List Nat},(pickB B bs).get b=some x→b∈bs∧B.get b=some x
 | [],h=>by cases h
 | c::bs,h=>by
  have h:(oc (B.get c) (pickB B bs) fun x=>(pickB B bs).set c x).get b=some x:=h
  cases hc:B.get c with
  | none=>
   rw[hc] at h
   obtain⟨h1,h2⟩:=qou_ (bs:=bs) h
   exact⟨.tail _ h1,h2⟩
  | some y=>
   rw[hc,oc_some,Tr.get_set] at h
   by_cases e:b=c
   ·rw[if_pos e] at h
    obtain rfl:=oI h
    exact⟨by rw[e]; exact .head _,by rw[e]; exact hc⟩
   ·rw[if_neg e] at h
    obtain⟨h1,h2⟩:=qou_ (bs:=bs) h
    exact⟨.tail _ h1,h2⟩
noncomputable def hasB (H:AH)(b:Nat):Bool:=oc (H.blocks.get b) false fun _=>true
noncomputable def relN (P:Program)(ops:List Oper)(i:Nat):Bool:=
 match ops[i]? with
 | some o=>isCh2 o.op||isMem P o.op
 | none=>false
noncomputable def qy4_ (P:Program)(p:Plan)(ops:List Oper)(base j:Nat)(H:AH):Bool:=
 ((List.range j).all (fun i=>!(relN P ops i)||p.before i j)&&(List.range ops.length).all fun k=>Nat.ble k j || !(relN P ops k)||p.before j k)&&(List.range ops.length).all fun k=>!(fltAt ops k)||p.before k j||p.before j k || !(hasB H (Nat.add base k))
noncomputable def rdOf (Rd:Tr (List Nat))(i:Nat):List Nat:=oc (Rd.get i) [] fun l=>l
noncomputable def pairSt (P:Program)(p:Plan)(ops:List Oper)(base:Nat)(rd:Nat→List Nat)(j b:Nat)(H:AH)(i:Nat):Bool:=
 Nat.beq i j||p.before i j||p.before j i||(match ops[i]? with
  | none=>true
  | some o=>(!(isMem P o.op)||Nat.blt j i||(Nat.blt i j&&(rd i).all (fun b'=>!(Nat.beq b' b)&&hasB H b')&&(p.f i).all (fun f=>p.before f j))) && !(isFlt o.op&&Nat.beq b (Nat.add base i)))
noncomputable def qy5_ (P:Program)(p:Plan)(ops:List Oper)(base:Nat)(rd:Nat→List Nat)(j b:Nat)(H:AH):Bool:=(List.range ops.length).all (pairSt P p ops base rd j b H)
noncomputable def exCall (T:Tr Value)(b:Callee)(ts:List TypeId)(l:List Operand):Option Nat:=
 match b,ts,l with
 | .builtin .append,[_,_],[s,_]=>sliceBlk (ev T s)
 | _,_,_=>none
noncomputable def exB (op:Op)(T:Tr Value):Option Nat:=
 match op with
 | .store _ x _=>oc (qpj_ (ev T x)) none fun a=>some a.1
 | .call c=>exCall T c.callee c.argTypes.toList c.args.toList
 | .mapUpdate _ x _ _=>qor_ (ev T x)
 | _=>none
noncomputable def exactOk (P:Program)(p:Plan)(ops:List Oper)(base:Nat)(rd:Nat→List Nat)(o:Oper)(j:Nat)(T:Tr Value)(H:AH):Bool:=
 oc (exB o.op T) false fun b=>hasB H b&&qy5_ P p ops base rd j b H
noncomputable def wrB (op:Op)(T:Tr Value):List Nat:=oc (exB op T) [] fun b=>[b]
theorem qy6_ {P:Program}{p:Plan}{ops:List Oper}{base:Nat}{rd:Nat→List Nat}{o:Oper}{j:Nat}{T:Tr Value}{H:AH}(h:exactOk P p ops base rd o j T H=true):∃ b,exB o.op T=some b∧hasB H b=true∧qy5_ P p ops base rd j b H=true:=by
 unfold exactOk at h
 cases hb:exB o.op T with
 | none=>rw[hb] at h; cases h
 | some b=>
  rw[hb] at h
  have h:(hasB H b&&qy5_ P p ops base rd j b H)=true:=h
  simp only[bA] at h
  exact⟨b,rfl,h⟩
def nilN (l:List Nat):Bool:=
 match l with
 | []=>true
 | _=>false
theorem nilN_eq {l:List Nat}(h:nilN l=true):l=[]:=by
 cases l with
 | nil=>rfl
 | cons _ _=>cases h
def oneN (l:List Nat):Bool:=
 match l with
 | [_]=>true
 | _=>false
noncomputable def lateOne (p:Plan)(base:Nat)(F:Tr ABlk)(hs:List AH)(R:Tr (List Nat))(i:Nat)(rds:List Nat)(j:Nat):Bool:=
 p.before j i||(oneN (rdOf R j)&&(Nat.ble (p.n j) (p.n i)&&oc (hs[Nat.sub (p.n i) (p.n j)]?) false fun G=>rds.all (fun b'=>(rdOf R j).all (fun b=>!(Nat.beq b' b))&&hasB (addFs F.get base (p.f j) G) b')&&(p.f i).all (fun f=>p.before f j))) ||
  (Nat.blt (p.n j) (p.n i)&&oc (hs[Nat.sub (p.n i) (p.c i)]?) false fun K=>oc (hs[Nat.sub (p.n i) (p.n j+1)]?) false fun G=>rds.all (fun b=>sameAt (addFs F.get base (p.f i) K) G b)&&(p.f i).all (fun f=>p.before f j))
noncomputable def lateOk (p:Plan)(base:Nat)(F:Tr ABlk)(hs:List AH)(R:Tr (List Nat))(W:List Nat)(i:Nat)(rds:List Nat):Bool:=W.all (lateOne p base F hs R i rds)
theorem qw9_ {P:Program}{p:Plan}{ops:List Oper}{base:Nat}{rd rd':Nat→List Nat}{j b:Nat}{H:AH}(h:∀ i,i<j→rd i=rd' i):qy5_ P p ops base rd j b H=qy5_ P p ops base rd' j b H:=by
 have:∀ i,pairSt P p ops base rd j b H i=pairSt P p ops base rd' j b H i:=fun i=>by
  unfold pairSt
  cases hb:Nat.blt i j with
  | false=>simp
  | true=>rw[h i (qfr_ hb)]
 unfold qy5_
 rw[funext this]
noncomputable def mildOne (P:Program)(p:Plan)(ops:List Oper)(base:Nat)(hs:List AH)(F:Tr ABlk)(rd:Nat→List Nat)(j:Nat)(H H1:AH)(i:Nat):Bool:=
 Nat.beq i j||p.before i j||p.before j i||(match ops[i]? with
  | none=>true
  | some o=>(!(isMem P o.op)||Nat.blt j i||(Nat.blt i j&&Nat.ble (p.c i) (p.n j)&&oc (hs[Nat.sub (p.n j) (p.c i)]?) false fun G=>(rd i).all (fun b=>sameAt (addFs F.get base (p.f i) G) H1 b)&&(p.f i).all (fun f=>p.before f j))) && !(isFlt o.op&&hasB H (Nat.add base i)))
noncomputable def mildOk (P:Program)(p:Plan)(ops:List Oper)(base:Nat)(hs:List AH)(F:Tr ABlk)(rd:Nat→List Nat)(j:Nat)(H H1:AH):Bool:=(List.range ops.length).all (mildOne P p ops base hs F rd j H H1)
noncomputable def wrL (P:Program)(p:Plan)(ops:List Oper)(base:Nat)(rd:Nat→List Nat)(o:Oper)(j:Nat)(T:Tr Value)(H H1:AH):List Nat:=sel (Nat.ble H.next H1.low) [] (sel (qy4_ P p ops base j H||exactOk P p ops base rd o j T H) (wrB o.op T) [0,0])
noncomputable def chgOk (P:Program)(p:Plan)(ops:List Oper)(base:Nat)(hs:List AH)(F:Tr ABlk)(rd:Nat→List Nat)(o:Oper)(j:Nat)(T:Tr Value)(H H1:AH):Bool:=Nat.ble H1.next big&&(Nat.ble H.next H1.low||qy4_ P p ops base j H||exactOk P p ops base rd o j T H||mildOk P p ops base hs F rd j H H1)
noncomputable def chgStep (P:Program)(call:CallT)(p:Plan)(ops:List Oper)(base:Nat)(hs:List AH)(F:Tr ABlk)(rd:Nat→List Nat)(o:Oper)(j:Nat)(T:Tr Value)(H:AH):Option ((Value×AH)×List Nat):=
 oc (qgd_ P call o.op o.type T H.fresh) none fun r=>sel (chgOk P p ops base hs F rd o j T H r.2) (some ((r.1,r.2.back H.low),wrL P p ops base rd o j T H r.2)) none
noncomputable def endOne (p:Plan)(ops:List Oper)(base:Nat)(hs:List AH)(q:Nat×Nat):Bool:=(List.range (p.n ops.length+1)).all fun c=>oc (hs[Nat.sub (p.n ops.length) c]?) false fun G=>Nat.ble G.low base&&(qz1_ p ops q.2 c || !(hasB G (Nat.add base q.2)))
noncomputable def endOk (p:Plan)(ops:List Oper)(base:Nat)(hs:List AH):Bool:=p.is.all (endOne p ops base hs)
noncomputable def insStep (P:Program)(call:CallT)(o:Oper)(T:Tr Value)(base:Nat)(F:Tr ABlk)(f:Nat):Option (Value×ABlk):=
 oc (F.get f) none fun x=>oc (qgd_ P call o.op o.type T ⟨Tr.nil.set (Nat.add base f) x,big,big⟩) none fun r=>oc (r.2.blocks.get (Nat.add base f)) none fun y=>some (r.1,y)
abbrev DRes:=Option (Tr Value×AH×Tr ABlk)
noncomputable def qle_ (P:Program)(call:Nat→CallT)(all:List Oper)(p:Plan)(base:Nat)(l:List Oper):Nat→Tr Value→AH→List AH→Tr ABlk→Tr (List Nat)→List Nat→DRes:=
 @List.rec Oper (fun _=>Nat→Tr Value→AH→List AH→Tr ABlk→Tr (List Nat)→List Nat→DRes) (fun _ T H hs F _ _=>sel (endOk p all base hs) (some (T,H,F)) none)
  (fun o _ ih j T H hs F R W=>sel (qnk_ all o T) (sel (qf2_ all o T)
   (sel (isIns o.op) (oc (findI p.is j) none fun f=>oc (insStep P (call j) o T base F f) none fun r=>ih (Nat.succ j) (putO T o.dst r.1) H hs (F.set f r.2) R W) (sel (isFlt o.op) (oc (fltOp P o.op T (Nat.add base j)) none fun r=>ih (Nat.succ j) (putO T o.dst r.1) H hs (F.set j r.2) R W)
    (sel (isCh2 o.op) (oc (chgStep P (call j) p all base hs F (rdOf R) o j T (addFs F.get base (p.f j) H)) none fun r=>sel (nilN r.2) (ih (Nat.succ j) (putO T o.dst r.1.1) r.1.2 (r.1.2::hs) F R W) (ih (Nat.succ j) (putO T o.dst r.1.1) r.1.2 (r.1.2::hs) F (R.set j r.2) (j::W)))
     (sel (isMem P o.op) (oc (hs[Nat.sub (p.n j) (p.c j)]?) none fun G=>oc (qgd_ P (call j) o.op o.type T (oneB (rdsOp T o.op) (addFs F.get base (p.f j) G))) none fun r=>sel (lateOk p base F hs R W j (rdsOp T o.op)) (ih (Nat.succ j) (putO T o.dst r.1) H hs F (R.set j (rdsOp T o.op)) W) none)
      (oc (qgd_ P (call j) o.op o.type T H) none fun r=>ih (Nat.succ j) (putO T o.dst r.1) H hs F R W)))))
   (sel (isIns o.op) none (sel (isCh2 o.op) (ih (Nat.succ j) (putO T o.dst undef) (addFs F.get base (p.f j) H) (addFs F.get base (p.f j) H::hs) F R W) (ih (Nat.succ j) (putO T o.dst undef) H hs F R W)))) none) l
theorem qgk_ (P:Program)(call:Nat→CallT)(all:List Oper)(p:Plan)(base:Nat)(o:Oper)(l:List Oper)(j:Nat)(T:Tr Value)(H:AH)(hs:List AH)(F:Tr ABlk)(R:Tr (List Nat))(W:List Nat):qle_ P call all p base (o::l) j T H hs F R W=sel (qnk_ all o T) (sel (qf2_ all o T)
   (sel (isIns o.op) (oc (findI p.is j) none fun f=>oc (insStep P (call j) o T base F f) none fun r=>qle_ P call all p base l (j+1) (putO T o.dst r.1) H hs (F.set f r.2) R W) (sel (isFlt o.op) (oc (fltOp P o.op T (Nat.add base j)) none fun r=>qle_ P call all p base l (j+1) (putO T o.dst r.1) H hs (F.set j r.2) R W)
    (sel (isCh2 o.op) (oc (chgStep P (call j) p all base hs F (rdOf R) o j T (addFs F.get base (p.f j) H)) none fun r=>sel (nilN r.2) (qle_ P call all p base l (j+1) (putO T o.dst r.1.1) r.1.2 (r.1.2::hs) F R W) (qle_ P call all p base l (j+1) (putO T o.dst r.1.1) r.1.2 (r.1.2::hs) F (R.set j r.2) (j::W)))
     (sel (isMem P o.op) (oc (hs[Nat.sub (p.n j) (p.c j)]?) none fun G=>oc (qgd_ P (call j) o.op o.type T (oneB (rdsOp T o.op) (addFs F.get base (p.f j) G))) none fun r=>sel (lateOk p base F hs R W j (rdsOp T o.op)) (qle_ P call all p base l (j+1) (putO T o.dst r.1) H hs F (R.set j (rdsOp T o.op)) W) none)
      (oc (qgd_ P (call j) o.op o.type T H) none fun r=>qle_ P call all p base l (j+1) (putO T o.dst r.1) H hs F R W)))))
   (sel (isIns o.op) none (sel (isCh2 o.op) (qle_ P call all p base l (j+1) (putO T o.dst undef) (addFs F.get base (p.f j) H) (addFs F.get base (p.f j) H::hs) F R W) (qle_ P call all p base l (j+1) (putO T o.dst undef) H hs F R W)))) none:=rfl
theorem drawGo_nil (P:Program)(call:Nat→CallT)(all:List Oper)(p:Plan)(base j:Nat)(T:Tr Value)(H:AH)(hs:List AH)(F:Tr ABlk)(R:Tr (List Nat))(W:List Nat):qle_ P call all p base [] j T H hs F R W=sel (endOk p all base hs) (some (T,H,F)) none:=rfl
noncomputable def qy7_ (P:Program)(call:Nat→CallT)(N:Nat)(ops:List Oper)(T:Tr Value)(H:AH):Option (Tr Value×AH):=
 sel (drawOk (qsi_ ops) N ops) (sel (Nat.ble (Nat.add H.next (qsi_ ops).wd) big) (oc (qle_ P call ops (qsi_ ops) H.next ops 0 T ⟨H.blocks,Nat.add H.next (qsi_ ops).wd,H.low⟩ [⟨H.blocks,Nat.add H.next (qsi_ ops).wd,H.low⟩] .nil .nil []) none fun r=>some (r.1,addFs r.2.2.get H.next (qsi_ ops).fin r.2.1)) none) none
noncomputable def qy8_ (P:Program):RegT:=fun call N ops T H=>qy7_ P (fun _=>call) N ops T H
theorem q0p_ {P:Program}{call:CallT}{p:Plan}{ops:List Oper}{base:Nat}{hs:List AH}{F:Tr ABlk}{rd:Nat→List Nat}{o:Oper}{j:Nat}{T:Tr Value}{H:AH}{r:(Value×AH)×List Nat}(h:chgStep P call p ops base hs F rd o j T H=some r):r.1.2.low≤H.low:=by
 obtain⟨q,_,h⟩:=oS h
 obtain⟨_,h⟩:=sel_none h
 obtain rfl:=oI h
 exact Nat.min_le_left _ _
theorem qh0_ {P:Program}{call:Nat→CallT}{all:List Oper}{p:Plan}{base:Nat}:∀ {l:List Oper} {j:Nat} {T T':Tr Value} {H H':AH} {hs:List AH} {F F':Tr ABlk} {R:Tr (List Nat)} {W:List Nat},qle_ P call all p base l j T H hs F R W=some (T',H',F')→H'.low≤H.low
 | [],j,T,T',H,H',hs,F,F',R,W,h=>by
  obtain⟨_,h⟩:=sel_none (b:=endOk p all base hs) h
  have h:=oI h
  cases h
  exact Nat.le_refl _
 | o::l,j,T,T',H,H',hs,F,F',R,W,h=>by
  rw[qgk_] at h
  obtain⟨_,h⟩:=sel_none h
  rcases qa_ h with⟨_,h⟩ | ⟨_,h⟩
  ·rcases qa_ h with⟨_,h⟩ | ⟨_,h⟩
   ·obtain⟨f,_,h⟩:=oS h
    obtain⟨r,hr,h⟩:=oS h
    exact qh0_ h
   rcases qa_ h with⟨_,h⟩ | ⟨_,h⟩
   ·obtain⟨r,hr,h⟩:=oS h
    exact qh0_ h
   ·rcases qa_ h with⟨_,h⟩ | ⟨_,h⟩
    ·obtain⟨r,hr,h⟩:=oS h
     rcases qa_ h with⟨_,h⟩ | ⟨_,h⟩
     ·exact Nat.le_trans (qh0_ h) (q0p_ (H:=addFs F.get base (p.f j) H) hr)
     ·exact Nat.le_trans (qh0_ h) (q0p_ (H:=addFs F.get base (p.f j) H) hr)
    ·rcases qa_ h with⟨_,h⟩ | ⟨_,h⟩
     ·obtain⟨G,_,h⟩:=oS h
      obtain⟨r,hr,h⟩:=oS h
      obtain⟨_,h⟩:=sel_none h
      exact qh0_ h
     ·obtain⟨r,hr,h⟩:=oS h
      exact qh0_ h
  ·rcases qa_ h with⟨_,h⟩ | ⟨_,h⟩
   ·cases h
   rcases qa_ h with⟨_,h⟩ | ⟨_,h⟩
   ·exact qh0_ (H:=addFs _ _ _ H) h
   ·exact qh0_ h
theorem qky_ (P:Program):RdLow (qy8_ P):=by
 intro call N ops T H T' H' h
 obtain⟨_,h⟩:=sel_none h
 obtain⟨_,h⟩:=sel_none h
 obtain⟨⟨a,b,c⟩,hr,h⟩:=oS h
 obtain⟨rfl,rfl⟩:=pI (oI h)
 have:=qh0_ hr
 exact this
noncomputable def Tseq (ops:List Oper)(v:Nat→Value)(T0:Tr Value):Nat→Tr Value
 | 0=>T0
 | j+1=>putO (Tseq ops v T0 j) (dstOf ops j) (v j)
theorem qy9_ {ops:List Oper}{v v':Nat→Value}{T0:Tr Value}:∀ {j:Nat},(∀ i,i<j→v i=v' i)→Tseq ops v T0 j=Tseq ops v' T0 j
 | 0,_=>rfl
 | j+1,h=>by
  show putO (Tseq ops v T0 j) _ (v j)=putO (Tseq ops v' T0 j) _ (v' j)
  rw[h j (Nat.lt_succ_self j),qy9_ fun i hi=>h i (Nat.lt_succ_of_lt hi)]
def lstS (l:List (Nat×Nat))(S:Nat→Bool)(f:Nat):Nat→Nat
 | 0=>f
 | n+1=>if S n=true∧findI l n=some f then n else lstS l S f n
def lst (l:List (Nat×Nat))(f n:Nat):Nat:=lstS l (fun _=>true) f n
def finB (p:Plan)(ops:List Oper)(C:Nat→Option ABlk)(f:Nat):Option ABlk:=C (lst p.is f ops.length)
theorem qsj_ (l:List (Nat×Nat))(f n:Nat):lst l f (n+1)=if findI l n=some f then n else lst l f n:=by
 unfold lst
 show (if _ then _ else _)=_
 simp
theorem lst_lt {l:List (Nat×Nat)}{f:Nat}:∀ {n:Nat},f<n→lst l f n<n
 | 0,h=>absurd h (Nat.not_lt_zero _)
 | n+1,h=>by
  rw[qsj_]
  split
  ·exact Nat.lt_succ_self n
  ·by_cases e:f=n
   ·subst e
    have:∀ m,m≤f→lst l f m≤f:=fun m=>by
     induction m with
     | zero=>exact fun _=>Nat.le_refl _
     | succ m ih=>intro hm; rw[qsj_]; split<;>first | omega | exact ih (by omega)
    have:=this f (Nat.le_refl _)
    omega
   ·have:=lst_lt (l:=l) (f:=f) (n:=n) (by omega)
    omega
theorem lst_past {l:List (Nat×Nat)}{f j:Nat}:∀ {m:Nat},j≤m→(∀ i,j≤i→i<m→findI l i ≠ some f)→lst l f m=lst l f j
 | 0,h,_=>by
         have:j=0:=by omega
         subst this; rfl
 | m+1,h,hs=>by
  by_cases e:j=m+1
  ·subst e; rfl
  ·rw[qsj_,if_neg (hs m (by omega) (by omega))]
   exact lst_past (by omega) fun i h1 h2=>hs i h1 (by omega)
theorem lst_self {l:List (Nat×Nat)}{f:Nat}:∀ {n:Nat},(∀ i,i<n→findI l i ≠ some f)→lst l f n=f
 | 0,_=>rfl
 | n+1,h=>by rw[qsj_,if_neg (h n (Nat.lt_succ_self n))]; exact lst_self fun i hi=>h i (by omega)
theorem qx3_:∀ {l:List (Nat×Nat)} {j f:Nat},findI l j=some f→(j,f)∈l
 | [],_,_,h=>by cases h
 | q::l,j,f,h=>by
  unfold findI at h
  cases hb:Nat.beq q.1 j with
  | true=>
   rw[hb,cond_true] at h
   obtain rfl:=oI h
   obtain rfl:=nB hb
   exact .head _
  | false=>rw[hb,cond_false] at h; exact .tail _ (qx3_ h)
structure InsRow (p:Plan) (ops:List Oper) (j f:Nat):Prop where
 lt:j<ops.length
 ft:f<j
 flt:fltAt ops f=true
 ins:insAt ops j=true
 bef:p.before f j=true
 chg:∀ i,i<ops.length→chgAt ops i=true→p.before f i=true→p.before j i=true
 new:∀ i,i<ops.length→f∈p.f i→p.before j i=true
 one:∀ i,findI p.is i=some f→i=j∨p.before i j=true∨p.before j i=true
theorem qvs_ {p:Plan}{ops:List Oper}(h:p.is.all (insOkP p ops)=true){j f:Nat}(hf:findI p.is j=some f):InsRow p ops j f:=by
 have h:=List.all_eq_true.1 h _ (qx3_ hf)
 simp only[insOkP,bA] at h
 obtain⟨⟨⟨⟨⟨⟨h1,h2⟩,h3⟩,h4⟩,h5⟩,h6⟩,h7⟩:=h
 refine⟨qfr_ h1,qfr_ h2,h3,h4,h5,fun i hi hc hb=>?_,fun i hi hm=>?_,fun i hi=>?_⟩
 ·have:=List.all_eq_true.1 h6 i (by simpa using hi)
  simp only[bA,Bool.or_eq_true,Bool.not_eq_true',hc,hb,Bool.true_and,Bool.true_eq_false,false_or] at this
  exact this.1
 ·have:=List.all_eq_true.1 h6 i (by simpa using hi)
  simp only[bA] at this
  have h2:=this.2
  have ha:((p.f i).any fun x=>Nat.beq x f)=true:=List.any_eq_true.2 ⟨f,hm,Nat.beq_refl f⟩
  rw[ha] at h2
  simpa using h2
 ·have:=List.all_eq_true.1 h7 _ (qx3_ hi)
  simp only[Nat.beq_refl,Bool.not_true,Bool.false_or,Bool.or_eq_true] at this
  rcases this with (h | h) | h
  ·exact .inl (nB h)
  ·exact .inr (.inl h)
  ·exact .inr (.inr h)
def Mild (P:Program)(ops:List Oper)(p:Plan)(base:Nat)(G:Nat→AH)(C:Nat→Option ABlk)(R:Nat→List Nat)(j:Nat):Prop:=
 ∀ i oi,ops[i]?=some oi→i=j∨p.before i j=true∨p.before j i=true ∨
  ((isMem P oi.op=true→j<i∨(i<j∧(∀ b∈R i,sameAt (addFs (finB p ops C) base (p.f i) (G (p.c i))) (G (p.n j+1)) b=true)∧∀ f∈p.f i,p.before f j=true))∧(isFlt oi.op=true→hasB (addFs (finB p ops C) base (p.f j) (G (p.n j))) (base+i)=false))
structure Fact (P:Program) (call:Nat→CallT) (ops:List Oper) (p:Plan) (base:Nat) (v:Nat→Value) (G:Nat→AH) (C:Nat→Option ABlk) (R:Nat→List Nat) (T0:Tr Value) (j:Nat) (o:Oper):Prop where
 gok:qnk_ ops o (Tseq ops v T0 j)=true
 nofb:isFlt o.op=false→isIns o.op=false→C j=none
 skip:qf2_ ops o (Tseq ops v T0 j)=false→v j=undef∧C j=none∧isIns o.op=false∧(isCh2 o.op=true→G (p.n j+1)=addFs (finB p ops C) base (p.f j) (G (p.n j)))
 flt:qf2_ ops o (Tseq ops v T0 j)=true→isFlt o.op=true→∃ r,fltOp P o.op (Tseq ops v T0 j) (base+j)=some r∧v j=r.1∧C j=some r.2
 pur:qf2_ ops o (Tseq ops v T0 j)=true→isFlt o.op=false→isCh2 o.op=false→isMem P o.op=false→isIns o.op=false→∃ H0 H1,qgd_ P (call j) o.op o.type (Tseq ops v T0 j) H0=some (v j,H1)
 mem:qf2_ ops o (Tseq ops v T0 j)=true→isFlt o.op=false→isCh2 o.op=false→isMem P o.op=true→(∃ H1,qgd_ P (call j) o.op o.type (Tseq ops v T0 j) (oneB (R j) (addFs (finB p ops C) base (p.f j) (G (p.c j))))=some (v j,H1)) ∧
  ∀ k,k<j→chgAt ops k=true→R k ≠ []→p.before k j=true∨(oneN (R k)=true∧(∀ b'∈R j,b' ∉ R k∧hasB (addFs (finB p ops C) base (p.f k) (G (p.n k))) b'=true)∧∀ f∈p.f j,p.before f k=true) ∨
   ((∀ b∈R j,sameAt (addFs (finB p ops C) base (p.f j) (G (p.c j))) (G (p.n k+1)) b=true)∧∀ f∈p.f j,p.before f k=true)
 ins:qf2_ ops o (Tseq ops v T0 j)=true→isIns o.op=true→∃ f x H1 y,findI p.is j=some f∧C (lst p.is f j)=some x∧qgd_ P (call j) o.op o.type (Tseq ops v T0 j) ⟨Tr.nil.set (base+f) x,big,big⟩=some (v j,H1)∧H1.blocks.get (base+f)=some y∧C j=some y
 chg:qf2_ ops o (Tseq ops v T0 j)=true→isCh2 o.op=true→∃ H1,qgd_ P (call j) o.op o.type (Tseq ops v T0 j) (addFs (finB p ops C) base (p.f j) (G (p.n j))).fresh=some (v j,H1)∧G (p.n j+1)=H1.back (G (p.n j)).low∧H1.next≤big∧((G (p.n j)).next≤H1.low∨qy4_ P p ops base j (addFs (finB p ops C) base (p.f j) (G (p.n j)))=true∨(∃ b,exB o.op (Tseq ops v T0 j)=some b∧R j=[b]∧hasB (addFs (finB p ops C) base (p.f j) (G (p.n j))) b=true∧qy5_ P p ops base R j b (addFs (finB p ops C) base (p.f j) (G (p.n j)))=true)∨R j ≠ []∧oneN (R j)=false∧Mild P ops p base G C R j)
def upd {α:Type}(f:Nat→α)(j:Nat)(x:α):Nat→α:=fun i=>if i=j then x else f i
theorem qnl_ {α:Type}(f:Nat→α)(j:Nat)(x:α):upd f j x j=x:=if_pos rfl
theorem qza_ {α:Type}(f:Nat→α){i j:Nat}(x:α)(h:i ≠ j):upd f j x i=f i:=if_neg h
theorem ins_not {P:Program}{op:Op}(h:isIns op=true):isCh2 op=false∧isFlt op=false∧isMem P op=false:=by cases op<;>first | exact⟨rfl,rfl,rfl⟩ | cases h
theorem qwp_ {op:Op}(h:isCh2 op=true):isFlt op=false:=by cases op<;>first | rfl | cases h | (rename_i r; cases r<;>first | rfl | cases h)
theorem qio_ {ms:List Nat}{i:Nat}:∀ {l:List Edge},(qqk_ ms l).testBit i=true→∃ e∈l,Region.binds .any e=true∧(i=e.on∨(ms.getD e.on 0).testBit i=true)
 | [],h=>by simp[qqk_] at h
 | e::l,h=>by
  unfold qqk_ at h
  cases hb:Region.binds .any e with
  | false=>
   rw[hb,cond_false] at h
   obtain⟨e',h1,h2⟩:=qio_ h
   exact⟨e',.tail _ h1,h2⟩
  | true=>
   rw[hb,cond_true,Nat.testBit_or,Nat.testBit_or,Bool.or_eq_true,Bool.or_eq_true] at h
   rcases h with (h | h) | h
   ·refine⟨e,.head _,hb,.inl ?_⟩
    rw[Nat.testBit_two_pow] at h
    have:e.on=i:=by simpa using h
    exact this.symm
   ·exact⟨e,.head _,hb,.inr h⟩
   ·obtain⟨e',h1,h2⟩:=qio_ h
    exact⟨e',.tail _ h1,h2⟩
theorem before_ltU {p:Plan}{ops:List Oper}(hrow:∀ j,j<ops.length→rowOk p ops j=true):∀ (j:Nat),j<ops.length→∀ i,p.before i j=true→i<j:=by
 intro j
 induction j using Nat.strongRecOn with
 | _ j ih=>
  intro hj i hi
  have hr:=hrow j hj
  unfold rowOk at hr
  split at hr
  ·cases hr
  ·rename_i o ho
   simp only[bA] at hr
   obtain⟨⟨⟨⟨⟨⟨⟨h1,h2⟩,_⟩,_⟩,_⟩,_⟩,_⟩,_⟩:=hr
   have h2:=nB h2
   unfold Plan.before at hi
   rw[h2] at hi
   obtain⟨e,he,hb,hcase⟩:=qio_ hi
   have h3:e.on<j:=by
    have:=List.all_eq_true.1 h1 e he
    simp only[Bool.or_eq_true,Bool.not_eq_true'] at this
    rcases this with h | h
    ·rw[hb] at h; cases h
    ·exact qfr_ h
   rcases hcase with rfl | hcase
   ·exact h3
   ·exact Nat.lt_trans (ih e.on h3 (by omega) i hcase) h3
theorem drawGo_facts {P:Program}{call:Nat→CallT}{ops:List Oper}{p:Plan}{base:Nat}(hrow:∀ j,j<ops.length→rowOk p ops j=true)(his:p.is.all (insOkP p ops)=true){T0 T':Tr Value}{H':AH}{F':Tr ABlk} :
  ∀ (l:List Oper) (j:Nat) (T:Tr Value) (H:AH) (hs:List AH) (F:Tr ABlk) (R:Tr (List Nat)) (W:List Nat) (v:Nat→Value) (G:Nat→AH) (C:Nat→Option ABlk) (rd:Nat→List Nat),ops.drop j=l→j≤ops.length→T=Tseq ops v T0 j→H=G (p.n j)→(∀ c,c≤p.n j→hs[p.n j-c]?=some (G c))→(∀ f,fltAt ops f=true→F.get f=if f<j then C (lst p.is f j) else none)→(∀ i,i<j→rdOf R i=rd i)→(∀ i,j≤i→R.get i=none)→(∀ i,i<j→chgAt ops i=true→rd i ≠ []→i∈W) →
   qle_ P call ops p base l j T H hs F R W=some (T',H',F') →
   ∃ v' G' C' rd',(∀ i,i<j→rd' i=rd i)∧(∀ i,i<j→v' i=v i)∧(∀ c,c≤p.n j→G' c=G c)∧(∀ f,f<j→C' f=C f) ∧
    T'=Tseq ops v' T0 ops.length∧H'=G' (p.n ops.length)∧(∀ f,f<ops.length→fltAt ops f=true→F'.get f=finB p ops C' f)∧(∀ j f,findI p.is j=some f→∀ c,c≤p.n ops.length→(G' c).low≤base∧(qz1_ p ops f c=true∨hasB (G' c) (base+f)=false))∧∀ i o,j≤i→ops[i]?=some o→Fact P call ops p base v' G' C' rd' T0 i o:=by
 intro l
 induction l with
 | nil=>
  intro j T H hs F R W v G C rd hdrop hj hT hH hh hF hR hRn hW h
  rw[drawGo_nil] at h
  obtain⟨hend,h⟩:=sel_none h
  have h:=oI h
  cases h
  have hjl:j=ops.length:=by
   have:=congrArg List.length hdrop
   simp at this
   omega
  subst hjl
  refine⟨v,G,C,rd,fun _ _=>rfl,fun _ _=>rfl,fun _ _=>rfl,fun _ _=>rfl,hT,hH,fun f hf hfl=>by rw[hF f hfl,if_pos hf]; rfl,fun j f hf c hc=>?_,fun i o hi ho=>?_⟩
  ·have h1:=List.all_eq_true.1 (List.all_eq_true.1 hend _ (qx3_ hf)) c (by simpa using Nat.lt_succ_of_le hc)
   have h2:=hh c hc
   rw[show p.n ops.length-c=Nat.sub (p.n ops.length) c from rfl] at h2
   rw[h2] at h1
   simp only[oc_some,bA,Bool.or_eq_true,Bool.not_eq_true'] at h1
   exact⟨qd1_ h1.1,h1.2⟩
  rw[List.getElem?_eq_none hi] at ho; cases ho
 | cons o l ih=>
  intro j T H hs F R W v G C rd hdrop hj hT hH hh hF hR hRn hW h
  have hget:ops[j]?=some o:=by
   have:=congrArg (fun m=>m[0]?) hdrop
   simpa [List.getElem?_drop] using this
  have hdrop':ops.drop (j+1)=l:=by
   have:=congrArg (List.drop 1) hdrop
   simpa [List.drop_drop,Nat.add_comm] using this
  have hlt:j<ops.length:=by
   rcases Nat.lt_or_ge j ops.length with h | h
   ·exact h
   ·rw[List.getElem?_eq_none h] at hget; cases hget
  have hrj:=hrow j hlt
  unfold rowOk at hrj
  rw[hget] at hrj
  simp only[bA] at hrj
  obtain⟨⟨⟨⟨⟨⟨⟨_,_⟩,hn⟩,hc⟩,hcf⟩,_⟩,hnew⟩,_⟩:=hrj
  have hn:=nB hn
  have hc:=qd1_ hc
  have hnewk:∀ k,k<ops.length→∀ f∈p.f k,f<k∧fltAt ops f=true∧∀ m,k≤m→m≤ops.length→lst p.is f m=lst p.is f k:=fun k hk f hf=>by
   have hrk:=hrow k hk
   unfold rowOk at hrk
   split at hrk
   ·cases hrk
   ·simp only[bA] at hrk
    have:=List.all_eq_true.1 hrk.1.2 f hf
    simp only[newOk,bA] at this
    refine⟨qfr_ this.1.1.1,this.2,fun m h1 h2=>lst_past h1 fun i q1 q2 q3=>?_⟩
    have ir:=qvs_ his q3
    have hb:=ir.new k hk hf
    have:=before_ltU hrow k hk i hb
    omega
  have hdst:dstOf ops j=o.dst:=by simp[dstOf,hget]
  have hlF:∀ (C':Nat→Option ABlk),(∀ f,f<j→C' f=C f)→∀ k,k≤j→∀ f∈p.f k,F.get f=finB p ops C' f:=fun C' hC k hk f hf=>by
   obtain⟨h1,h2,h3⟩:=hnewk k (by omega) f hf
   have e1:=h3 j hk (by omega)
   have e2:=h3 ops.length (by omega) (Nat.le_refl _)
   rw[hF f h2,if_pos (by omega)]
   show C (lst p.is f j)=C' (lst p.is f ops.length)
   rw[e2,←e1,hC _ (lst_lt (by omega))]
  have hadd:∀ (C':Nat→Option ABlk),(∀ f,f<j→C' f=C f)→∀ H,addFs F.get base (p.f j) H=addFs (finB p ops C') base (p.f j) H:=fun C' hC H=>qwo_ fun f hf=>hlF C' hC j (Nat.le_refl _) f hf
  have hadd2:∀ (C':Nat→Option ABlk),(∀ f,f<j→C' f=C f)→∀ k,k<j→∀ H,addFs F.get base (p.f k) H=addFs (finB p ops C') base (p.f k) H:=fun C' hC k hk H=>qwo_ fun f hf=>hlF C' hC k (Nat.le_of_lt hk) f hf
  have hcj:chgAt ops j=isCh2 o.op:=by simp[chgAt,hget]
  have hRj:rdOf R j=[]:=by unfold rdOf; rw[hRn j (Nat.le_refl _)]; rfl
  rw[qgk_] at h
  obtain⟨hgk,h⟩:=sel_none h
  have tail:∀ {x:Value} {H1:AH} {hs1:List AH} {F1:Tr ABlk} {b:Option ABlk} {R1:Tr (List Nat)} {W1:List Nat},qle_ P call ops p base l (j+1) (putO T o.dst x) H1 hs1 F1 R1 W1=some (T',H',F') →
    (isCh2 o.op=true→hs1=H1::hs)→(isCh2 o.op=false→hs1=hs∧H1=H)→(∀ f,fltAt ops f=true→F1.get f=if f<j+1 then upd C j b (lst p.is f (j+1)) else none)→(∀ i,i ≠ j→R1.get i=R.get i)→(∀ i∈W,i∈W1)→(chgAt ops j=true→rdOf R1 j ≠ []→j∈W1) →
    (∀ (v':Nat→Value) (G':Nat→AH) (C':Nat→Option ABlk) (rd':Nat→List Nat),(∀ i,i<j→rd' i=rd i)→rd' j=rdOf R1 j→Tseq ops v' T0 j=T→v' j=x→(∀ c,c≤p.n j→G' c=G c)→G' (p.n j)=H→(isCh2 o.op=true→G' (p.n j+1)=H1)→(∀ f,f<j→C' f=C f)→C' j=b→Fact P call ops p base v' G' C' rd' T0 j o) →
    ∃ v' G' C' rd',(∀ i,i<j→rd' i=rd i)∧(∀ i,i<j→v' i=v i)∧(∀ c,c≤p.n j→G' c=G c)∧(∀ f,f<j→C' f=C f) ∧
     T'=Tseq ops v' T0 ops.length∧H'=G' (p.n ops.length)∧(∀ f,f<ops.length→fltAt ops f=true→F'.get f=finB p ops C' f)∧(∀ j f,findI p.is j=some f→∀ c,c≤p.n ops.length→(G' c).low≤base∧(qz1_ p ops f c=true∨hasB (G' c) (base+f)=false))∧∀ i o,j≤i→ops[i]?=some o→Fact P call ops p base v' G' C' rd' T0 i o:=by
   intro x H1 hs1 F1 b R1 W1 h1 q1 q2 q3 qR qW qW1 q4
   have hn1:p.n j≤p.n (j+1):=by rw[hn]; cases isCh2 o.op<;>simp
   have hchn:isCh2 o.op=true→p.n (j+1)=p.n j+1:=fun e=>by rw[hn,e]; rfl
   have hstn:isCh2 o.op=false→p.n (j+1)=p.n j:=fun e=>by rw[hn,e]; rfl
   have hG1:∃ G1:Nat→AH,(∀ c,c≤p.n j→G1 c=G c)∧H1=G1 (p.n (j+1))∧∀ c,c≤p.n (j+1)→hs1[p.n (j+1)-c]?=some (G1 c):=by
    cases e:isCh2 o.op with
    | false=>
     obtain⟨e1,e2⟩:=q2 e
     rw[hstn e,e1,e2]
     exact⟨G,fun _ _=>rfl,hH,hh⟩
    | true=>
     rw[hchn e,q1 e]
     refine⟨upd G (p.n j+1) H1,fun c hc=>qza_ _ _ (by omega),(qnl_ _ _ _).symm,fun c hc=>?_⟩
     by_cases ec:c=p.n j+1
     ·subst ec; rw[qnl_,Nat.sub_self]; rfl
     ·rw[qza_ _ _ ec,show p.n j+1-c=(p.n j-c)+1 from by omega,List.getElem?_cons_succ]
      exact hh c (by omega)
   obtain⟨G1,g1,g2,g3⟩:=hG1
   obtain⟨v',G',C',rd',fR,f1,f2,f3,f4,f5,f6,f6b,f7⟩:=ih (j+1) (putO T o.dst x) H1 hs1 F1 R1 W1 (upd v j x) G1 (upd C j b) (upd rd j (rdOf R1 j)) hdrop' hlt (by
     show _=putO (Tseq ops _ T0 j) (dstOf ops j) (upd v j x j)
     rw[qnl_,hdst,hT,qy9_ (v:=upd v j x) (v':=v) fun i hi=>qza_ _ _ (by omega)]) g2 g3 q3 (fun i hi=>by
     by_cases e:i=j
     ·subst e; rw[qnl_]
     ·rw[qza_ _ _ e,←hR i (by omega)]
      unfold rdOf
      rw[qR i e]) (fun i hi=>by rw[qR i (by omega)]; exact hRn i (by omega)) (fun i hi hcc hne=>by
     by_cases e:i=j
     ·subst e; rw[qnl_] at hne; exact qW1 hcc hne
     ·rw[qza_ _ _ e] at hne; exact qW i (hW i (by omega) hcc hne)) h1
   have v1:∀ i,i<j→v' i=v i:=fun i hi=>by rw[f1 i (by omega),qza_ _ _ (by omega)]
   have G1':∀ c,c≤p.n j→G' c=G c:=fun c hc=>by rw[f2 c (by omega),g1 c hc]
   have B1:∀ f,f<j→C' f=C f:=fun i hi=>by rw[f3 i (by omega),qza_ _ _ (by omega)]
   have rd1:∀ i,i<j→rd' i=rd i:=fun i hi=>by rw[fR i (by omega),qza_ _ _ (by omega)]
   refine⟨v',G',C',rd',rd1,v1,G1',B1,f4,f5,f6,f6b,fun i o' hi ho'=>?_⟩
   by_cases hij:i=j
   ·subst hij
    rw[hget] at ho'
    obtain rfl:=oI ho'
    exact q4 v' G' C' rd' rd1 (by rw[fR i (by omega),qnl_]) (by rw[hT,qy9_ v1]) (by rw[f1 i (by omega),qnl_]) G1' (by rw[G1' _ (Nat.le_refl _),←hH]) (fun e=>by
     have:=f2 (p.n (i+1)) (Nat.le_refl _)
     rw[←g2,hchn e] at this
     exact this) B1 (by rw[f3 i (by omega),qnl_])
   ·exact f7 i o' (by omega) ho'
  have hself:∀ f,f=j→lst p.is f (j+1)=f:=fun f e=>by
   subst e
   refine lst_self fun i hi hf=>?_
   have:=(qvs_ his hf).ft
   omega
  have hnoI:isIns o.op=false→findI p.is j=none:=fun e=>by
   cases hi:findI p.is j with
   | none=>rfl
   | some f=>
    have:=(qvs_ his hi).ins
    simp only[insAt,hget] at this
    rw[this] at e; cases e
  have hset:findI p.is j=none→∀ (F1:Tr ABlk) (b:Option ABlk),(∀ f,F1.get f=if f=j then b else F.get f)→∀ f,fltAt ops f=true→F1.get f=if f<j+1 then upd C j b (lst p.is f (j+1)) else none:=fun hi F1 b h1 f hf=>by
   rw[h1]
   by_cases e:f=j
   ·rw[if_pos e,if_pos (by omega),hself f e,e,qnl_]
   ·rw[if_neg e,hF f hf]
    by_cases e2:f<j
    ·rw[if_pos e2,if_pos (by omega),qsj_,if_neg (by rw[hi]; exact fun h=>(by cases h)),qza_ _ _ (by have:=lst_lt (l:=p.is) e2; omega)]
    ·rw[if_neg e2,if_neg (by omega)]
  have hskip:isIns o.op=false→∀ f,fltAt ops f=true→F.get f=if f<j+1 then upd C j none (lst p.is f (j+1)) else none:=fun hi f hf=>by
   by_cases e:f=j
   ·rw[hF f hf,if_neg (by omega),if_pos (by omega),hself f e,e,qnl_]
   ·rw[hF f hf]
    by_cases e2:f<j
    ·rw[if_pos e2,if_pos (by omega),qsj_,if_neg (by rw[hnoI hi]; exact fun h=>(by cases h)),qza_ _ _ (by have:=lst_lt (l:=p.is) e2; omega)]
    ·rw[if_neg e2,if_neg (by omega)]
  rcases qa_ h with⟨hw,h⟩ | ⟨hw,h⟩
  ·rcases qa_ h with⟨hins,h⟩ | ⟨hins,h⟩
   ·obtain⟨f0,hf0,h⟩:=oS h
    obtain⟨r,hr,h⟩:=oS h
    obtain⟨x,hx,hr⟩:=oS hr
    obtain⟨q,hq,hr⟩:=oS hr
    obtain⟨y,hy,hr⟩:=oS hr
    obtain rfl:=oI hr
    have ir:=qvs_ his hf0
    obtain⟨hch,hnf,hnm⟩:=ins_not (P:=P) hins
    have hjf:fltAt ops j=false:=by simp[fltAt,hget,hnf]
    rw[hF f0 ir.flt,if_pos ir.ft] at hx
    refine tail (b:=some y) h (fun e=>?_) (fun _=>⟨rfl,rfl⟩) (fun f hf=>?_) (fun _ _=>rfl) (fun _ h=>h) (fun _ hne=>absurd hRj hne) ?_
    ·rw[hch] at e; cases e
    ·have e:f ≠ j:=fun e=>by rw[e,hjf] at hf; cases hf
     rw[Tr.get_set,qsj_,hf0]
     by_cases e0:f=f0
     ·subst e0
      rw[if_pos rfl,if_pos rfl,if_pos (by have:=ir.ft; omega),qnl_]
     ·rw[if_neg e0,if_neg (fun h=>e0 (oI h).symm),hF f hf]
      by_cases e2:f<j
      ·rw[if_pos e2,if_pos (by omega),qza_ _ _ (by have:=lst_lt (l:=p.is) e2; omega)]
      ·rw[if_neg e2,if_neg (by omega)]
    intro v' G' C' rd' b1 b2 a1 a2 a3 a4 a5 a6 a7
    refine⟨by rw[a1]; exact hgk,fun _ e=>?_,fun e=>?_,fun _ e=>?_,fun _ _ _ _ e=>?_,fun _ _ _ e=>?_,fun _ _=>⟨f0,x,q.2,y,hf0,?_,?_,hy,a7⟩,fun _ e=>?_⟩
    ·rw[hins] at e; cases e
    ·rw[a1,hw] at e; cases e
    ·rw[hnf] at e; cases e
    ·rw[hins] at e; cases e
    ·rw[hnm] at e; cases e
    ·rw[a6 _ (lst_lt ir.ft)]; exact hx
    ·rw[a1,a2]; exact hq
    ·rw[hch] at e; cases e
   have hI:=hnoI hins
   rcases qa_ h with⟨hfl',h⟩ | ⟨hfl',h⟩
   ·obtain⟨r,hr,h⟩:=oS h
    have hch:isCh2 o.op=false:=by
     cases e:isCh2 o.op with
     | false=>rfl
     | true=>rw[qwp_ e] at hfl'; cases hfl'
    refine tail h (fun e=>?_) (fun _=>⟨rfl,rfl⟩) (hset hI _ _ fun f=>Tr.get_set _ _ _ _) (fun _ _=>rfl) (fun _ h=>h) (fun _ hne=>absurd hRj hne) ?_
    ·rw[hch] at e; cases e
    intro v' G' C' rd' b1 b2 a1 a2 a3 a4 a5 a6 a7
    refine⟨by rw[a1]; exact hgk,fun e=>?_,fun e=>?_,fun _ _=>⟨r,by rw[a1]; exact hr,a2,a7⟩,fun _ e=>?_,fun _ e=>?_,fun _ e=>?_,fun _ e=>?_⟩
    ·rw[hfl'] at e; cases e
    ·rw[a1,hw] at e; cases e
    ·rw[hfl'] at e; cases e
    ·rw[hfl'] at e; cases e
    ·rw[hins] at e; cases e
    ·rw[hch] at e; cases e
   ·rcases qa_ h with⟨hch,h⟩ | ⟨hch,h⟩
    ·obtain⟨r,hr,h⟩:=oS h
     obtain⟨q,hq,hr⟩:=oS hr
     obtain⟨hb,hr⟩:=sel_none hr
     obtain rfl:=oI hr
     simp only[chgOk,bA,Bool.or_eq_true] at hb
     have fin:∀ (l:List Nat),wrL P p ops base (rdOf R) o j T (addFs F.get base (p.f j) H) q.2=l→∀ (v':Nat→Value) (G':Nat→AH) (C':Nat→Option ABlk) (rd':Nat→List Nat),(∀ i,i<j→rd' i=rd i)→rd' j=l→Tseq ops v' T0 j=T→v' j=q.1→(∀ c,c≤p.n j→G' c=G c)→G' (p.n j)=H→(isCh2 o.op=true→G' (p.n j+1)=q.2.back (addFs F.get base (p.f j) H).low)→(∀ f,f<j→C' f=C f)→C' j=none→Fact P call ops p base v' G' C' rd' T0 j o:=by
      intro l hl v' G' C' rd' b1 b2 a1 a2 a3 a4 a5 a6 a7
      have hq:=hq
      have hb:=hb
      have hF2:=fun k hk K=>hadd2 C' a6 k hk K
      rw[hadd C' a6] at hq hb hl
      refine⟨by rw[a1]; exact hgk,fun _ _=>a7,fun e=>?_,fun _ e=>?_,fun _ _ e=>?_,fun _ _ e=>?_,fun _ e=>?_,fun _ _=>⟨q.2,?_,?_,qd1_ hb.1,?_⟩⟩
      ·rw[a1,hw] at e; cases e
      ·rw[hfl'] at e; cases e
      ·rw[hch] at e; cases e
      ·rw[hch] at e; cases e
      ·rw[hins] at e; cases e
      ·rw[a1,a4,a2]; exact hq
      ·rw[a5 hch,a4]; rfl
      ·rw[a4,a1]
       unfold wrL at hl
       cases hcalm:Nat.ble (addFs (finB p ops C') base (p.f j) H).next q.2.low with
       | true=>exact .inl (qd1_ hcalm)
       | false=>
        rw[hcalm,sel_false] at hl
        rcases hb.2 with ((h | h) | h) | h
        ·rw[hcalm] at h; cases h
        ·exact .inr (.inl h)
        ·rw[h,Bool.or_true,sel_true] at hl
         obtain⟨b,e1,e2,e3⟩:=qy6_ h
         refine .inr (.inr (.inl ⟨b,e1,?_,e2,?_⟩))
         ·rw[b2,←hl]
          unfold wrB
          rw[e1]; rfl
         ·rw[qw9_ (rd':=rdOf R) fun i hi=>by rw[b1 i hi,hR i hi]]
          exact e3
        ·cases hbe:(qy4_ P p ops base j (addFs (finB p ops C') base (p.f j) H)||exactOk P p ops base (rdOf R) o j T (addFs (finB p ops C') base (p.f j) H)) with
         | true=>
          rcases Bool.or_eq_true_iff.1 hbe with hbe' | hbe'
          ·exact .inr (.inl hbe')
          ·rw[hbe,sel_true] at hl
           obtain⟨b,e1,e2,e3⟩:=qy6_ hbe'
           refine .inr (.inr (.inl ⟨b,e1,?_,e2,?_⟩))
           ·rw[b2,←hl]
            unfold wrB
            rw[e1]; rfl
           ·rw[qw9_ (rd':=rdOf R) fun i hi=>by rw[b1 i hi,hR i hi]]
            exact e3
         | false=>
          rw[hbe,sel_false] at hl
          refine .inr (.inr (.inr ⟨by rw[b2,←hl]; exact List.cons_ne_nil _ _,by rw[b2,←hl]; rfl,fun i oi hoi=>?_⟩))
          have hil:i<ops.length:=by
           rcases Nat.lt_or_ge i ops.length with h | h
           ·exact h
           ·rw[List.getElem?_eq_none h] at hoi; cases hoi
          have hm:=List.all_eq_true.1 h i (by simpa using hil)
          unfold mildOne at hm
          rw[hoi] at hm
          simp only[Bool.or_eq_true] at hm
          rcases hm with ((hm | hm) | hm) | hm
          ·exact .inl (nB hm)
          ·exact .inr (.inl hm)
          ·exact .inr (.inr (.inl hm))
          ·refine .inr (.inr (.inr ?_))
           simp only[bA,Bool.or_eq_true,Bool.not_eq_true'] at hm
           refine⟨fun hme=>?_,fun hfl=>?_⟩
           ·rcases hm.1 with (h1 | h1) | h1
            ·rw[hme] at h1; cases h1
            ·exact .inl (qfr_ h1)
            ·obtain⟨⟨g1,g2⟩,g3⟩:=h1
             have g1:=qfr_ g1
             have g2:=qd1_ g2
             have hG:=hh (p.c i) g2
             rw[show p.n j-p.c i=Nat.sub (p.n j) (p.c i) from rfl] at hG
             rw[hG] at g3
             simp only[oc_some,bA] at g3
             refine .inr ⟨g1,fun b hb'=>?_,fun f hf=>List.all_eq_true.1 g3.2 f hf⟩
             rw[b1 i g1,←hR i g1] at hb'
             have g4:=List.all_eq_true.1 g3.1 b hb'
             rw[hF2 i g1] at g4
             rw[a3 _ g2,a5 hch]
             exact g4
           ·have h2:=hm.2
            rw[hfl,Bool.true_and] at h2
            rw[a4]; exact h2
     generalize hwl:wrL P p ops base (rdOf R) o j T (addFs F.get base (p.f j) H) q.2=wl at h fin
     rcases qa_ h with⟨hn,h⟩ | ⟨hn,h⟩
     ·refine tail h (fun _=>rfl) (fun e=>?_) (hskip hins) (fun _ _=>rfl) (fun _ h=>h) (fun _ hne=>absurd hRj hne) fun v' G' C' rd' b1 b2 a1 a2 a3 a4 a5 a6 a7=>?_
      ·rw[hch] at e; cases e
      ·have hn:=nilN_eq hn
       have hn:wl=[]:=hn
       exact fin wl rfl v' G' C' rd' b1 (by rw[b2,hRj,hn]) a1 a2 a3 a4 a5 a6 a7
     ·refine tail h (fun _=>rfl) (fun e=>?_) (hskip hins) (fun i hi=>by rw[Tr.get_set,if_neg hi]) (fun i hi=>List.mem_cons_of_mem _ hi) (fun _ _=>List.mem_cons_self ..) fun v' G' C' rd' b1 b2 a1 a2 a3 a4 a5 a6 a7=>?_
      ·rw[hch] at e; cases e
      ·refine fin wl rfl v' G' C' rd' b1 ?_ a1 a2 a3 a4 a5 a6 a7
       rw[b2]
       unfold rdOf
       rw[Tr.get_set,if_pos rfl]; rfl
    ·rcases qa_ h with⟨hme,h⟩ | ⟨hme,h⟩
     ·obtain⟨K,hK,h⟩:=oS h
      obtain⟨r,hr,h⟩:=oS h
      obtain⟨hlate,h⟩:=sel_none h
      refine tail h (fun e=>?_) (fun _=>⟨rfl,rfl⟩) (hskip hins) (fun i hi=>by rw[Tr.get_set,if_neg hi]) (fun _ h=>h) (fun e _=>?_) ?_
      ·rw[hch] at e; cases e
      ·rw[hcj,hch] at e; cases e
      intro v' G' C' rd' b1 b2 a1 a2 a3 a4 a5 a6 a7
      have hKG:G' (p.c j)=K:=by
       rw[a3 _ hc]
       have:=hh (p.c j) hc
       rw[show p.n j-p.c j=Nat.sub (p.n j) (p.c j) from rfl,hK] at this
       exact (oI this).symm
      rw[hadd C' a6] at hr
      refine⟨by rw[a1]; exact hgk,fun _ _=>a7,fun e=>?_,fun _ e=>?_,fun _ _ _ e=>?_,fun _ _ _ _=>⟨⟨r.2,?_⟩,fun k hk hck hne=>?_⟩,fun _ e=>?_,fun _ e=>?_⟩
      ·rw[a1,hw] at e; cases e
      ·rw[hfl'] at e; cases e
      ·rw[hme] at e; cases e
      ·rw[a1,hKG,a2,b2]
       have:rdOf (R.set j (rdsOp T o.op)) j=rdsOp T o.op:=by unfold rdOf; rw[Tr.get_set,if_pos rfl]; rfl
       rw[this]; exact hr
      ·have hset:rd' j=rdsOp T o.op:=by rw[b2]; unfold rdOf; rw[Tr.get_set,if_pos rfl]; rfl
       have hkR:rd' k=rdOf R k:=by rw[b1 k hk,hR k hk]
       have hkW:k∈W:=hW k hk hck (by rw[←b1 k hk]; exact hne)
       have hl:=List.all_eq_true.1 hlate k hkW
       simp only[lateOne,Bool.or_eq_true,bA] at hl
       rcases hl with (hl | ⟨hone,hle,hl⟩) | ⟨hle,hl⟩
       ·exact .inl hl
       ·refine .inr (.inl ?_)
        have hkR1:oneN (rd' k)=true:=by rw[hkR]; exact hone
        refine⟨hkR1,?_⟩
        have hle:=qd1_ hle
        have hG:=hh (p.n k) hle
        rw[show p.n j-p.n k=Nat.sub (p.n j) (p.n k) from rfl] at hG
        rw[hG] at hl
        simp only[oc_some,bA] at hl
        refine⟨fun b' hb'=>?_,fun f hf=>List.all_eq_true.1 hl.2 f hf⟩
        rw[hset] at hb'
        have h1:=List.all_eq_true.1 hl.1 b' hb'
        simp only[bA] at h1
        refine⟨fun hm=>?_,?_⟩
        ·rw[hkR] at hm
         have:=List.all_eq_true.1 h1.1 b' hm
         rw[Nat.beq_refl] at this
         cases this
        ·rw[a3 _ hle,←hadd2 C' a6 k hk]
         exact h1.2
       ·refine .inr (.inr ?_)
        have hle:=qfr_ hle
        have g1:=hh (p.c j) hc
        have g2:=hh (p.n k+1) hle
        rw[show p.n j-p.c j=Nat.sub (p.n j) (p.c j) from rfl] at g1
        rw[show p.n j-(p.n k+1)=Nat.sub (p.n j) (p.n k+1) from rfl] at g2
        rw[g1,oc_some,g2,oc_some] at hl
        simp only[bA] at hl
        refine⟨fun b hb=>?_,fun f hf=>List.all_eq_true.1 hl.2 f hf⟩
        rw[hset] at hb
        have:=List.all_eq_true.1 hl.1 b hb
        rw[hadd C' a6] at this
        rw[a3 _ hc,a3 _ hle]
        exact this
      ·rw[hins] at e; cases e
      ·rw[hch] at e; cases e
     ·obtain⟨r,hr,h⟩:=oS h
      refine tail h (fun e=>?_) (fun _=>⟨rfl,rfl⟩) (hskip hins) (fun _ _=>rfl) (fun _ h=>h) (fun _ hne=>absurd hRj hne) ?_
      ·rw[hch] at e; cases e
      intro v' G' C' rd' b1 b2 a1 a2 a3 a4 a5 a6 a7
      refine⟨by rw[a1]; exact hgk,fun _ _=>a7,fun e=>?_,fun _ e=>?_,fun _ _ _ _ _=>⟨H,r.2,?_⟩,fun _ _ _ e=>?_,fun _ e=>?_,fun _ e=>?_⟩
      ·rw[a1,hw] at e; cases e
      ·rw[hfl'] at e; cases e
      ·rw[a1,a2]; exact hr
      ·rw[hme] at e; cases e
      ·rw[hins] at e; cases e
      ·rw[hch] at e; cases e
  ·rcases qa_ h with⟨_,h⟩ | ⟨hins,h⟩
   ·cases h
   rcases qa_ h with⟨hch,h⟩ | ⟨hch,h⟩
   ·refine tail h (fun _=>rfl) (fun e=>?_) (hskip hins) (fun _ _=>rfl) (fun _ h=>h) (fun _ hne=>absurd hRj hne) ?_
    ·rw[hch] at e; cases e
    intro v' G' C' rd' b1 b2 a1 a2 a3 a4 a5 a6 a7
    refine⟨by rw[a1]; exact hgk,fun _ _=>a7,fun _=>⟨a2,a7,hins,fun _=>?_⟩,fun e=>?_,fun e=>?_,fun e=>?_,fun e=>?_,fun e=>?_⟩
    ·rw[a5 hch,a4,hadd C' a6]
    all_goals (rw[a1,hw] at e; cases e)
   ·refine tail h (fun e=>?_) (fun _=>⟨rfl,rfl⟩) (hskip hins) (fun _ _=>rfl) (fun _ h=>h) (fun _ hne=>absurd hRj hne) ?_
    ·rw[hch] at e; cases e
    intro v' G' C' rd' b1 b2 a1 a2 a3 a4 a5 a6 a7
    refine⟨by rw[a1]; exact hgk,fun _ _=>a7,fun _=>⟨a2,a7,hins,fun e=>?_⟩,fun e=>?_,fun e=>?_,fun e=>?_,fun e=>?_,fun e=>?_⟩
    ·rw[hch] at e; cases e
    all_goals (rw[a1,hw] at e; cases e)
end Go.Proofs.YthlikofobjhcoaaGreat.Ax
namespace Go.Proofs.YthlikofobjhcoaaGreat.Ax
open Go.RowKit
variable [Tabs]
theorem qsk_ {ms:List Nat}{i:Nat}{l:List Edge}(h:(qqk_ ms l).testBit i=true):∃ e∈l,Region.binds .any e=true∧(i=e.on∨(ms.getD e.on 0).testBit i=true):=qio_ h
def lastW (ops:List Oper)(S:Nat→Bool)(t:Nat):Nat→Option Nat
 | 0=>none
 | j+1=>if S j=true∧dstOf ops j=some t then some j else lastW ops S t j
noncomputable def TS (ops:List Oper)(v:Nat→Value)(T0:Tr Value)(S:Nat→Bool):Nat→Tr Value
 | 0=>T0
 | j+1=>if S j=true then putO (TS ops v T0 S j) (dstOf ops j) (v j) else TS ops v T0 S j
theorem tget_putO (T:Tr Value)(d:Option Nat)(x:Value)(t:Nat):tget (putO T d x) t=if d=some t then x else tget T t:=by
 cases d with
 | none=>simp[putO]
 | some i=>
  show tget (T.set i x) t=_
  rw[q08_]
  by_cases h:t=i
  ·subst h; simp
  ·rw[if_neg h,if_neg (by simpa using fun e=>h e.symm)]
theorem qzb_ (ops:List Oper)(v:Nat→Value)(T0:Tr Value)(S:Nat→Bool)(t:Nat):∀ j,tget (TS ops v T0 S j) t=match lastW ops S t j with | some i=>v i | none=>tget T0 t
 | 0=>rfl
 | j+1=>by
  unfold TS lastW
  by_cases hS:S j=true
  ·rw[if_pos hS,tget_putO]
   by_cases hd:dstOf ops j=some t
   ·rw[if_pos hd,if_pos ⟨hS,hd⟩]
   ·rw[if_neg hd,if_neg (fun h=>hd h.2)]
    exact qzb_ ops v T0 S t j
  ·rw[if_neg hS,if_neg (fun h=>hS h.1)]
   exact qzb_ ops v T0 S t j
theorem Tseq_eq (ops:List Oper)(v:Nat→Value)(T0:Tr Value):∀ j,Tseq ops v T0 j=TS ops v T0 (fun _=>true) j
 | 0=>rfl
 | j+1=>by
  unfold Tseq TS
  rw[if_pos rfl,Tseq_eq ops v T0 j]
theorem qzc_ {ops:List Oper}{S:Nat→Bool}{t j:Nat}:∀ {m:Nat},j≤m→(∀ i,j≤i→i<m→dstOf ops i=some t→S i=false)→lastW ops S t m=lastW ops S t j
 | 0,h,_=>by
         have:j=0:=by omega
         subst this; rfl
 | m+1,h,hs=>by
  by_cases e:j=m+1
  ·subst e; rfl
  ·have hm:¬ (S m=true∧dstOf ops m=some t):=fun q=>by
    have:=hs m (by omega) (by omega) q.2
    rw[this] at q; exact absurd q.1 Bool.false_ne_true
   show (if _ then _ else _)=_
   rw[if_neg hm]
   exact qzc_ (by omega) fun i h1 h2 h3=>hs i h1 (by omega) h3
theorem qzd_ {ops:List Oper}{S S':Nat→Bool}{t:Nat}:∀ {m:Nat},(∀ i,i<m→dstOf ops i=some t→S i=S' i)→lastW ops S t m=lastW ops S' t m
 | 0,_=>rfl
 | m+1,h=>by
  unfold lastW
  have ih:=qzd_ (m:=m) fun i hi hd=>h i (by omega) hd
  by_cases hd:dstOf ops m=some t
  ·rw[h m (by omega) hd,ih]
  ·rw[if_neg (fun q=>hd q.2),if_neg (fun q=>hd q.2),ih]
theorem TS_agree {ops:List Oper}{v:Nat→Value}{T0:Tr Value}{S:Nat→Bool}{t j n:Nat}(hj:j≤n)(h:∀ i,i<n→dstOf ops i=some t→(S i=true ↔ i<j)):tget (TS ops v T0 S n) t=tget (Tseq ops v T0 j) t:=by
 rw[Tseq_eq,qzb_,qzb_]
 have e1:lastW ops S t n=lastW ops S t j:=qzc_ hj fun i h1 h2 h3=>by
  cases hs:S i with
  | false=>rfl
  | true=>exact absurd ((h i h2 h3).1 hs) (by omega)
 have e2:lastW ops S t j=lastW ops (fun _=>true) t j:=qzd_ fun i hi hd=>(h i (by omega) hd).2 hi
 rw[e1,e2]
def withJ (S:Nat→Bool)(j:Nat):Nat→Bool:=fun i=>if i=j then true else S i
theorem TS_next {ops:List Oper}{v:Nat→Value}{T0:Tr Value}{S:Nat→Bool}{t j n:Nat}(hj:j<n)(h:∀ i,j<i→i<n→dstOf ops i=some t→dstOf ops j=some t→S i=false) :
  tget (TS ops v T0 (withJ S j) n) t=tget (putO (TS ops v T0 S n) (dstOf ops j) (v j)) t:=by
 rw[tget_putO]
 by_cases hd:dstOf ops j=some t
 ·rw[if_pos hd,qzb_]
  have e1:lastW ops (withJ S j) t n=lastW ops (withJ S j) t (j+1):=qzc_ hj fun i h1 h2 h3=>by
   unfold withJ
   rw[if_neg (by omega)]
   exact h i (by omega) h2 h3 hd
  have e2:lastW ops (withJ S j) t (j+1)=some j:=by
   unfold lastW
   rw[if_pos ⟨by simp[withJ],hd⟩]
  rw[e1,e2]
 ·rw[if_neg hd,qzb_,qzb_]
  have:lastW ops (withJ S j) t n=lastW ops S t n:=qzd_ fun i hi hdi=>by
   unfold withJ
   by_cases e:i=j
   ·subst e; exact absurd hdi hd
   ·rw[if_neg e]
  rw[this]
theorem TR.congr {σ:Ren}{N:Nat}{T T':Tr Value}{ts:Array Value}(h:TR σ N T ts)(he:∀ t,tget T' t=tget T t):TR σ N T' ts:=⟨h.size,fun i=>by rw[he]; exact h.slot i⟩
theorem HR.wide {n0:Bs}{σ:Ren}{H:AH}{w:World}(hr:HR n0 σ H w)(hb:H.next≤big):HR n0 σ (wideB H) w:=
 ⟨hr.base,hr.blk,hr.inj,fun b t h=>Nat.lt_of_lt_of_le (hr.dom b t h) hb,hr.img,(fun b h=>⟨Nat.lt_of_lt_of_le (hr.hol b h).1 hb,(hr.hol b h).2⟩),hr.frz⟩
theorem HR.setX {n:Base}{X Y:Nat→Prop}{σ:Ren}{H:AH}{w:World}(hr:HR ⟨n,X⟩ σ H w)(h:∀ b,Y b→X b):HR ⟨n,Y⟩ σ H w:=
 ⟨hr.base,hr.blk,hr.inj,hr.dom,hr.img,(fun b hb=>hr.hol b (h b hb)),hr.frz⟩
theorem Step.setX {n:Base}{X Y:Nat→Prop}{σ σ':Ren}{w w':World}{low:Nat}(st:Step ⟨n,X⟩ σ w low σ' w'):Step ⟨n,Y⟩ σ w low σ' w':=⟨st.ext,st.below,st.keep,st.kz⟩
theorem HR.calm {n:Base}{X Y:Nat→Prop}{σ σ':Ren}{H:AH}{w w':World}{low:Nat}(hr:HR ⟨n,X⟩ σ H w)(st:Step ⟨n,X⟩ σ w low σ' w')(hl:∀ b t,σ b=some t→b<low)(hd:∀ b t,σ' b=some t→b<H.next)(hi:∀ b c d m,σ' b=some (c,d,m)→c<w'.heap.size)
  (hY:∀ b,Y b→b<H.next∧σ' b=none) (hf:FrzOK σ' w'):HR ⟨n,Y⟩ σ' H w':=by
 refine⟨qoq_ hr.base st.below.size st.below.block,fun b x hx=>?_,fun b₁ b₂ x₁ x₂ c d₁ m₁ d₂ m₂ h1 h2 s1 s2=>?_,hd,hi,hY,hf⟩
 ·obtain⟨c,d,m,hs,hn,hB⟩:=hr.blk b x hx
  refine⟨c,d,m,st.ext _ _ hs,hn,?_⟩
  rw[(st.keep c (hr.img b c d m hs) (.inr fun b' d' m' h=>hl b' _ h)).1]
  exact hB.mono st.ext
 ·obtain⟨c₁,d₁',m₁',hs₁,_,_⟩:=hr.blk b₁ x₁ h1
  obtain⟨c₂,d₂',m₂',hs₂,_,_⟩:=hr.blk b₂ x₂ h2
  have e1:=st.ext _ _ hs₁
  have e2:=st.ext _ _ hs₂
  rw[s1] at e1
  rw[s2] at e2
  injection e1 with e1
  injection e1 with e1 _
  injection e2 with e2
  injection e2 with e2 _
  exact hr.inj b₁ b₂ x₁ x₂ c d₁' m₁' d₂' m₂' h1 h2 (by rw[e1]; exact hs₁) (by rw[e2]; exact hs₂)
theorem ext_kept {σ:Ren}{b:Nat}(h:σ b=none)(t:Nat×Nat×Nat):σ.Ext (σ.put b t):=⟨fun x u hx=>by
 have:x ≠ b:=fun e=>by rw[e,h] at hx; cases hx
 rw[Ren.put_other σ t this]; exact hx,fun _ _ _ h=>h⟩
theorem HR.kept {n:Base}{X Y:Nat→Prop}{σ:Ren}{H:AH}{w:World}(hr:HR ⟨n,X⟩ σ H w){b:Nat}(hb:X b)(o:Obj)(m:Nat)(hY:∀ x,Y x→X x∧x ≠ b):HR ⟨n,Y⟩ (σ.put b (w.heap.size,0,m)) H (w.alloc o):=by
 obtain⟨hlt,hno⟩:=hr.hol b hb
 have hext:=ext_kept hno (w.heap.size,0,m)
 have hne:∀ x y,H.blocks.get x=some y→x ≠ b:=fun x y hx e=>by
  obtain⟨c,d,m',hs,_⟩:=hr.blk x y hx
  rw[e,hno] at hs; cases hs
 refine⟨qoq_ hr.base (by rw[qnf_]; exact Nat.le_succ _) ((Below.refl n.n w).alloc hr.base.1 o).block,fun x y hx=>?_,fun b₁ b₂ x₁ x₂ c d₁ m₁ d₂ m₂ h1 h2 s1 s2=>?_,fun x t hx=>?_,fun x c d m' hx=>?_,fun x hx=>?_,hr.frz.put _ _ (Nat.le_refl _) (by rw[qnf_]; omega) fun c hc=>Below.heap_alloc w o c hc⟩
 ·obtain⟨c,d,m',hs,hn,hB⟩:=hr.blk x y hx
  refine⟨c,d,m',hext _ _ hs,hn,?_⟩
  rw[Below.heap_alloc w o c (hr.img x c d m' hs)]
  exact hB.mono hext
 ·rw[Ren.put_other _ _ (hne _ _ h1)] at s1
  rw[Ren.put_other _ _ (hne _ _ h2)] at s2
  exact hr.inj b₁ b₂ x₁ x₂ c d₁ m₁ d₂ m₂ h1 h2 s1 s2
 ·by_cases e:x=b
  ·rw[e]; exact hlt
  ·rw[Ren.put_other _ _ e] at hx; exact hr.dom x t hx
 ·have hz:=qnf_ w o
  by_cases e:x=b
  ·rw[e,Ren.put_self] at hx
   injection hx with hx
   injection hx with hx _
   omega
  ·rw[Ren.put_other _ _ e] at hx
   have:=hr.img x c d m' hx
   omega
 ·obtain⟨h1,h2⟩:=hY x hx
  rw[Ren.put_other _ _ h2]; exact hr.hol x h1
theorem Step.kept {n:Base}{X Y:Nat→Prop}{σ:Ren}{H:AH}{w:World}(hr:HR ⟨n,X⟩ σ H w){b:Nat}(hb:X b)(o:Obj)(m low:Nat):Step ⟨n,Y⟩ σ w low (σ.put b (w.heap.size,0,m)) (w.alloc o):=by
 obtain⟨hlt,hno⟩:=hr.hol b hb
 refine⟨ext_kept hno _,(Below.refl n.n w).alloc hr.base.1 o,fun c hc _=>⟨Below.heap_alloc w o c hc,fun x d m' hx=>?_⟩,fun _ _ _ _ _ h=>h⟩
 by_cases e:x=b
 ·rw[e,Ren.put_self] at hx
  injection hx with hx
  injection hx with hx _
  omega
 ·rwa [Ren.put_other _ _ e] at hx
def Whole (n:Base)(σ:Ren)(w:World)(b:Nat)(x:ABlk):Prop:=
 ∃ cf m,σ b=some (cf,0,m)∧n.Own cf∧cf<w.heap.size∧BR σ 0 m (w.heap[cf]?) x∧∀ b' d' m',σ b'=some (cf,d',m')→b'=b
theorem Whole.calm {n0:Bs}{n:Base}{σ σ':Ren}{w w':World}{low b:Nat}{x:ABlk}(h:Whole n σ w b x)(st:Step n0 σ w low σ' w')(hl:b<low):Whole n σ' w' b x:=by
 obtain⟨cf,m,h1,h2,h3,h4,h5⟩:=h
 have hk:=st.keep cf h3 (.inr fun b' d' m' hb=>by rw[h5 b' d' m' hb]; exact hl)
 refine⟨cf,m,st.ext _ _ h1,h2,Nat.lt_of_lt_of_le h3 st.below.size,by rw[hk.1]; exact h4.mono st.ext,fun b' d' m' hb=>h5 b' d' m' (hk.2 b' d' m' hb)⟩
theorem Whole.safe {n:Nat}{Q X:Nat→Prop}{s:Base}{σ σ':Ren}{w w':World}{low b:Nat}{x:ABlk}(h:Whole s σ w b x)(st:Step ⟨⟨n,Q⟩,X⟩ σ w low σ' w')(hq:∀ cf m,σ b=some (cf,0,m)→Q cf):Whole s σ' w' b x:=by
 obtain⟨cf,m,h1,h2,h3,h4,h5⟩:=h
 have hk:=st.keep cf h3 (.inl (hq cf m h1))
 exact⟨cf,m,st.ext _ _ h1,h2,Nat.lt_of_lt_of_le h3 st.below.size,by rw[hk.1]; exact h4.mono st.ext,fun b' d' m' hb=>h5 b' d' m' (hk.2 b' d' m' hb)⟩
theorem HR.addQ {n:Nat}{Q Q' X:Nat→Prop}{σ:Ren}{H:AH}{w:World}(hr:HR ⟨⟨n,Q⟩,X⟩ σ H w)(hs:∀ c,Q' c→c<w.heap.size)(hn:∀ b x c d m,H.blocks.get b=some x→σ b=some (c,d,m)→¬ Q' c):HR ⟨⟨n,fun c=>Q c∨Q' c⟩,X⟩ σ H w:=
 ⟨⟨hr.base.1,fun c hc=>hc.elim (hr.base.2.1 c) (hs c),hr.base.2.2⟩,fun b x hb=>let ⟨c,d,m,h1,h2,h3⟩:=hr.blk b x hb; ⟨c,d,m,h1,⟨h2.1,fun hq=>hq.elim h2.2 (hn b x c d m hb h1)⟩,h3⟩,hr.inj,hr.dom,hr.img,hr.hol,hr.frz⟩
theorem Whole.kept {n:Base}{X:Nat→Prop}{σ:Ren}{H:AH}{w:World}(hr:HR ⟨n,X⟩ σ H w){b b':Nat}(hb:X b)(o:Obj)(m:Nat){x:ABlk}(h:Whole n σ w b' x):Whole n (σ.put b (w.heap.size,0,m)) (w.alloc o) b' x:=by
 exact h.calm (Step.kept (Y:=X) hr hb o m (b' + 1)) (Nat.lt_succ_self _)
theorem Whole.new {n:Base}{X:Nat→Prop}{σ:Ren}{H:AH}{w:World}(hr:HR ⟨n,X⟩ σ H w){b:Nat}(o:Obj)(m:Nat){x:ABlk}(h:BR (σ.put b (w.heap.size,0,m)) 0 m (some o) x):Whole n (σ.put b (w.heap.size,0,m)) (w.alloc o) b x:=by
 refine⟨w.heap.size,m,Ren.put_self _ _ _,hr.own_new,by rw[qnf_]; exact Nat.lt_succ_self _,by rw[alloc_self]; exact h,fun b' d' m' hb'=>?_⟩
 by_cases e:b'=b
 ·exact e
 ·rw[Ren.put_other _ _ e] at hb'
  exact absurd (hr.img b' _ d' m' hb') (Nat.lt_irrefl _)
theorem HR.addOne {n:Base}{X:Nat→Prop}{σ:Ren}{H:AH}{w:World}(hr:HR ⟨n,X⟩ σ H w){b:Nat}{x:ABlk}(h:Whole n σ w b x):HR ⟨n,X⟩ σ ⟨H.blocks.set b x,H.next,H.low⟩ w:=by
 obtain⟨cf,m,h1,h2,h3,h4,h5⟩:=h
 refine⟨hr.base,fun b' y hy=>?_,fun b₁ b₂ x₁ x₂ c d₁ m₁ d₂ m₂ g1 g2 s1 s2=>?_,hr.dom,hr.img,hr.hol,hr.frz⟩
 ·simp only[Tr.get_set] at hy
  by_cases e:b'=b
  ·rw[if_pos e] at hy
   obtain rfl:=oI hy
   exact⟨cf,0,m,by rw[e]; exact h1,h2,h4⟩
  ·rw[if_neg e] at hy
   exact hr.blk b' y hy
 ·simp only[Tr.get_set] at g1 g2
  by_cases e1:b₁=b
  ·rw[e1,h1] at s1
   injection s1 with s1
   injection s1 with s1 _
   rw[←s1] at s2
   rw[e1]; exact (h5 _ _ _ s2).symm
  ·by_cases e2:b₂=b
   ·rw[e2,h1] at s2
    injection s2 with s2
    injection s2 with s2 _
    rw[←s2] at s1
    rw[e2]; exact h5 _ _ _ s1
   ·rw[if_neg e1] at g1
    rw[if_neg e2] at g2
    exact hr.inj b₁ b₂ x₁ x₂ c d₁ m₁ d₂ m₂ g1 g2 s1 s2
theorem HR.addFs {n:Base}{X:Nat→Prop}{σ:Ren}{H:AH}{w:World}(hr:HR ⟨n,X⟩ σ H w){g:Nat→Option ABlk}{base:Nat}:∀ {fs:List Nat},(∀ f∈fs,∀ x,g f=some x→Whole n σ w (base+f) x)→HR ⟨n,X⟩ σ (addFs g base fs H) w
 | [],_=>hr
 | f::fs,h=>by
  have ih:=HR.addFs hr (g:=g) (base:=base) (fs:=fs) fun k hk=>h k (.tail _ hk)
  cases hg:g f with
  | none=>
   have e:Ax.addFs g base (f::fs) H=Ax.addFs g base fs H:=by
    show AH.mk (oc (g f) (addB g base fs H.blocks) (fun x=>(addB g base fs H.blocks).set (Nat.add base f) x)) _ _=_
    rw[hg]; rfl
   rw[e]; exact ih
  | some x=>
   have e:Ax.addFs g base (f::fs) H=⟨(Ax.addFs g base fs H).blocks.set (base+f) x,(Ax.addFs g base fs H).next,(Ax.addFs g base fs H).low⟩:=by
    show AH.mk (oc (g f) (addB g base fs H.blocks) (fun x=>(addB g base fs H.blocks).set (Nat.add base f) x)) _ _=_
    rw[hg]; rfl
   rw[e]
   exact ih.addOne (h f (.head _) x hg)
theorem HR.small {n0:Bs}{σ:Ren}{H:AH}{w:World}(hr:HR n0 σ H w)(hb:H.next≤big)(bs:List Nat):HR n0 σ (oneB bs H) w:=
 ⟨hr.base,fun b x h=>hr.blk b x (qou_ h).2,fun b₁ b₂ x₁ x₂ c d₁ m₁ d₂ m₂ h1 h2=>hr.inj b₁ b₂ x₁ x₂ c d₁ m₁ d₂ m₂ (qou_ h1).2 (qou_ h2).2,fun b t h=>Nat.lt_of_lt_of_le (hr.dom b t h) hb,hr.img,(fun b h=>⟨Nat.lt_of_lt_of_le (hr.hol b h).1 hb,(hr.hol b h).2⟩),hr.frz⟩
theorem storeOp_ok {P:Program}{N:Nat}{n0:Bs}{σ:Ren}{H H':AH}{w:World}{call:CallT}{o:Oper}{a:Act}{T:Tr Value}(hT:TR σ N T a.tmps)(hr:HR n0 σ H w)(hop:opOk o.op=true){t:TypeId}{x y:Operand}(ho:o.op=.store t x y){v:Value}
  (h:qgd_ P call o.op o.type T H=some (v,H')) {ad:Nat×Nat} (had:qpj_ (ev T x)=some ad) :
  (∀ c,o.op ≠ .defer c)∧∃ k d m w',σ ad.1=some (k,d,m)∧(∃ z,H.blocks.get ad.1=some z)∧(execOp a.eval o).run P w=.ok .skip w'∧v=undef∧HR n0 σ H' w'∧Step n0 σ w H'.low σ w'∧∀ q,q ≠ k→w'.heap[q]?=w.heap[q]?:=by
 obtain⟨dst,op,ty,pos,after,guard⟩:=o
 obtain rfl:op=.store t x y:=ho
 simp only[opOk,bA] at hop
 obtain⟨rfl,a',ha',k,d,m,w',h1,h2,h3,h4,h5,h6⟩:=store_exact (P:=P) hr h (ev_ok (a:=a) hT hop.1) (ev_ok (a:=a) hT hop.2)
 rw[had] at ha'
 obtain rfl:=oI ha'
 exact⟨fun c=>by simp,k,d,m,w',h1,h2,by simp only[execOp,Sem.run_bind,h3,Result.andThen_ok,Sem.run_pure],rfl,h4,h5,h6⟩
theorem HR.aside2 {n:Base}{X Y:Nat→Prop}{σ σ':Ren}{H:AH}{w w':World}(hr:HR ⟨n,X⟩ σ H w){k:Nat}(hbl:∀ q,q<n.n→w'.heap[q]?=w.heap[q]?)(hext:σ.Ext σ')(hq:∀ q,q<w.heap.size→q ≠ k→w'.heap[q]?=w.heap[q]?)(hsz:w.heap.size≤w'.heap.size)(hne:∀ b x c d m,H.blocks.get b=some x→σ b=some (c,d,m)→c ≠ k)
  (hd:∀ b t,σ' b=some t→b<H.next) (hi:∀ b c d m,σ' b=some (c,d,m)→c<w'.heap.size) (hY:∀ b,Y b→b<H.next∧σ' b=none) (hf:FrzOK σ' w'):HR ⟨n,Y⟩ σ' H w':=by
 refine⟨qoq_ hr.base hsz hbl,fun b x hx=>?_,fun b₁ b₂ x₁ x₂ c d₁ m₁ d₂ m₂ h1 h2 s1 s2=>?_,hd,hi,hY,hf⟩
 ·obtain⟨c,d,m,hs,hn,hB⟩:=hr.blk b x hx
  exact⟨c,d,m,hext _ _ hs,hn,by rw[hq c (hr.img b c d m hs) (hne b x c d m hx hs)]; exact hB.mono hext⟩
 ·obtain⟨c₁,d₁',m₁',hs₁,_,_⟩:=hr.blk b₁ x₁ h1
  obtain⟨c₂,d₂',m₂',hs₂,_,_⟩:=hr.blk b₂ x₂ h2
  have e1:=hext _ _ hs₁
  have e2:=hext _ _ hs₂
  rw[s1] at e1
  rw[s2] at e2
  injection e1 with e1
  injection e1 with e1 _
  injection e2 with e2
  injection e2 with e2 _
  exact hr.inj b₁ b₂ x₁ x₂ c d₁' m₁' d₂' m₂' h1 h2 (by rw[e1]; exact hs₁) (by rw[e2]; exact hs₂)
theorem Whole.aside2 {n:Base}{σ σ':Ren}{w w':World}{b:Nat}{x:ABlk}(h:Whole n σ w b x){k:Nat}(hext:σ.Ext σ')(hq:∀ q,q<w.heap.size→q ≠ k→w'.heap[q]?=w.heap[q]?)(hsz:w.heap.size≤w'.heap.size){b0 d m:Nat}(h0:σ b0=some (k,d,m))(hne:b0 ≠ b)
  (hnew:∀ b' c d' m',σ' b'=some (c,d',m')→σ b'=some (c,d',m')∨c=k∨w.heap.size≤c):Whole n σ' w' b x:=by
 obtain⟨cf,m',h1,h2,h3,h4,h5⟩:=h
 have:cf ≠ k:=fun e=>hne (h5 b0 d m (by rw[e]; exact h0))
 refine⟨cf,m',hext _ _ h1,h2,Nat.lt_of_lt_of_le h3 hsz,by rw[hq cf h3 this]; exact h4.mono hext,fun b' d' m'' hb=>?_⟩
 rcases hnew _ _ _ _ hb with h | h | h
 ·exact h5 _ _ _ h
 ·exact absurd h this
 ·exact absurd h3 (Nat.not_lt.2 h)
theorem exB_congr {op:Op}{T T':Tr Value}(h:∀ x∈op.operands,ev T x=ev T' x):exB op T=exB op T':=by
 unfold exB
 cases op with
 | store t x y=>
  have:ev T x=ev T' x:=h x (by simp[Op.operands])
  simp only[this]
 | call c=>
  simp only
  unfold exCall
  split
  ·rename_i t u s y hb ht hl
   have:ev T s=ev T' s:=h s (by
    have hs:s∈c.args.toList:=by rw[hl]; simp
    simp[Op.operands,Call.operands,hb] at *
    exact hs)
   rw[this]
  ·rfl
 | mapUpdate t x y z=>
  have:ev T x=ev T' x:=h x (by simp[Op.operands])
  simp only[this]
 | _=>rfl
theorem exactOp_ok {P:Program}{N:Nat}{n0:Bs}{σ:Ren}{H H':AH}{w:World}{call:CallT}{o:Oper}{a:Act}{T:Tr Value}(hT:TR σ N T a.tmps)(hr:HR n0 σ H w)(hop:opOk o.op=true){b:Nat}(hb:exB o.op T=some b)(hh:hasB H b=true){v:Value}
  (h:qgd_ P call o.op o.type T H=some (v,H')) :
  (∀ c,o.op ≠ .defer c)∧∃ k d m w' v' σ',σ b=some (k,d,m)∧(∃ z,H.blocks.get b=some z)∧((execOp a.eval o).run P w=.ok (.value v') w'∨((execOp a.eval o).run P w=.ok .skip w'∧v'=undef))∧VR σ' v v'∧HR n0 σ' H' w'∧Step n0 σ w H'.low σ' w' ∧
   (∀ q,q<w.heap.size→q ≠ k→w'.heap[q]?=w.heap[q]?)∧∀ b' c d' m',σ' b'=some (c,d',m')→σ b'=some (c,d',m')∨c=k∨w.heap.size≤c:=by
 have hz:∃ z,H.blocks.get b=some z:=by
  unfold hasB at hh
  cases hz:H.blocks.get b with
  | none=>rw[hz] at hh; cases hh
  | some z=>exact⟨z,rfl⟩
 unfold exB at hb
 split at hb
 ·rename_i t x y e
  obtain⟨ad,had,hb⟩:=oS hb
  obtain rfl:=oI hb
  obtain⟨hd,k,d,m,w',g1,g2,r1,r2,g3,g4,g5⟩:=storeOp_ok (P:=P) hT hr hop e h had
  exact⟨hd,k,d,m,w',undef,σ,g1,hz,.inr ⟨r1,rfl⟩,by rw[r2]; exact qo4_ σ,g3,g4,fun q _ hq=>g5 q hq,fun _ _ _ _ h=>.inl h⟩
 ·rename_i c e
  unfold exCall at hb
  split at hb
  ·rename_i t u s y hcl hts hargs
   obtain⟨dst,op,ty,pos,after,guard⟩:=o
   obtain rfl:op=.call c:=e
   have hop:qu4_ c=true:=hop
   have h:qse_ P call c ty T H=some (v,H'):=h
   unfold qse_ at h
   unfold qu4_ at hop
   rw[hcl] at h hop
   simp only at h hop
   have hl:=qyr_ (a:=a) hT hop
   rw[hts,hargs] at h
   rw[hargs] at hl
   have h:qk6_ P t u (ev T s) (ev T y) H=some (v,H'):=h
   have hl:VRs σ [ev T s,ev T y] [a.eval s,a.eval y]:=hl
   cases hl with
   | cons hs hl=>
    cases hl with
    | cons hy _=>
     obtain⟨v',σ',w',r1,r2,r3,r4,k,d,m,r5,r6,r7⟩:=append_exact (P:=P) (ty:=ty) hr h hs hy hb
     refine⟨fun c=>by simp,k,d,m,w',v',σ',r5,hz,.inl ?_,r2,r3,r4,r6,r7⟩
     have e1:c.args.map a.eval=#[a.eval s,a.eval y]:=by
      apply Array.ext'
      rw[Array.toList_map,hargs]; rfl
     have e2:c.argTypes=#[t,u]:=by
      apply Array.ext'
      rw[hts]
     simp only[execOp,resolve,hcl,invoke,Sem.run_bind,Sem.run_pure,Result.andThen_ok,e1,e2]
     have e3:∀ consts,builtin .append #[t,u] ty consts #[a.eval s,a.eval y]=(do pure (.value (←Builtin.append_ #[t,u] ty #[a.eval s,a.eval y]))):=fun _=>rfl
     simp[e3,Sem.run_bind,r1]
  ·cases hb
 ·rename_i t x y z e
  obtain⟨dst,op,ty,pos,after,guard⟩:=o
  obtain rfl:op=.mapUpdate t x y z:=e
  simp only[opOk,bA] at hop
  have h:qos_ P t (ev T x) (ev T y) (ev T z) H=some (v,H'):=h
  obtain⟨rfl,b',hb',c,w',g1,g2,g3,g4,g5⟩:=qw8_ (P:=P) hr h (ev_ok (a:=a) hT hop.1.1) (ev_ok (a:=a) hT hop.1.2) (ev_ok (a:=a) hT hop.2)
  rw[hb] at hb'
  obtain rfl:=oI hb'
  exact⟨fun c=>by simp,c,0,0,w',undef,σ,g1,hz,.inr ⟨by simp only[execOp,Sem.run_bind,g2,Result.andThen_ok,Sem.run_pure],rfl⟩,qo4_ σ,g3,g4,fun q _ hq=>g5 q hq,fun _ _ _ _ h=>.inl h⟩
 ·cases hb
theorem mem_not {P:Program}{op:Op}(h:isMem P op=true):isFlt op=false∧isCh2 op=false:=by
 cases op with
 | call c=>
  have h:isLenM P c=true:=h
  unfold isLenM at h
  refine⟨rfl,?_⟩
  have:isChg (.call c)=false:=by
   unfold isChg
   simp only
   split at h
   ·rename_i e
    rw[e]
   ·cases h
  unfold isCh2
  rw[this]; rfl
 | _=>first | exact⟨rfl,rfl⟩ | cases h
theorem qtp_ {l:List (Nat×Nat)}{S S':Nat→Bool}{f:Nat}:∀ {m:Nat},(∀ i,i<m→findI l i=some f→S i=S' i)→lstS l S f m=lstS l S' f m
 | 0,_=>rfl
 | m+1,h=>by
  unfold lstS
  have ih:=qtp_ (m:=m) fun i hi hd=>h i (by omega) hd
  by_cases hd:findI l m=some f
  ·rw[h m (by omega) hd,ih]
  ·rw[if_neg (fun q=>hd q.2),if_neg (fun q=>hd q.2),ih]
theorem q1p_ {l:List (Nat×Nat)}{S:Nat→Bool}{f j:Nat}:∀ {m:Nat},j≤m→(∀ i,j≤i→i<m→findI l i=some f→S i=false)→lstS l S f m=lstS l S f j
 | 0,h,_=>by
         have:j=0:=by omega
         subst this; rfl
 | m+1,h,hs=>by
  by_cases e:j=m+1
  ·subst e; rfl
  ·have hm:¬ (S m=true∧findI l m=some f):=fun q=>by
    have:=hs m (by omega) (by omega) q.2
    rw[this] at q; exact absurd q.1 Bool.false_ne_true
   show (if _ then _ else _)=_
   rw[if_neg hm]
   exact q1p_ (by omega) fun i h1 h2 h3=>hs i h1 (by omega) h3
theorem lstS_agree {l:List (Nat×Nat)}{S:Nat→Bool}{f j n:Nat}(hj:j≤n)(h:∀ i,i<n→findI l i=some f→(S i=true ↔ i<j)):lstS l S f n=lst l f j:=by
 have e1:lstS l S f n=lstS l S f j:=q1p_ hj fun i h1 h2 h3=>by
  cases hs:S i with
  | false=>rfl
  | true=>exact absurd ((h i h2 h3).1 hs) (by omega)
 rw[e1]
 exact qtp_ fun i hi hd=>(h i (by omega) hd).2 hi
theorem insOp_ok {P:Program}{N:Nat}{n:Base}{X:Nat→Prop}{σ:Ren}{H0:AH}{w:World}{call:CallT}{o:Oper}{a:Act}{T:Tr Value}(hT:TR σ N T a.tmps)(hr:HR ⟨n,X⟩ σ H0 w)(hb:H0.next≤big)(hop:opOk o.op=true)(hi:isIns o.op=true){b:Nat}{x:ABlk}(hw:Whole n σ w b x){v:Value}{H1:AH}{y:ABlk}
  (h:qgd_ P call o.op o.type T ⟨Tr.nil.set b x,big,big⟩=some (v,H1)) (hy:H1.blocks.get b=some y) :
  (∀ c,o.op ≠ .defer c)∧∃ cf m w',σ b=some (cf,0,m)∧n.Own cf∧(∀ b' d' m',σ b'=some (cf,d',m')→b'=b)∧(execOp a.eval o).run P w=.ok .skip w'∧v=undef∧Whole n σ w' b y∧Below n.n w w'∧∀ q,q<w.heap.size→q ≠ cf→w'.heap[q]?=w.heap[q]?:=by
 obtain⟨cf,m,h1,h2,h3,h4,h5⟩:=hw
 have hget:∀ b' z,(Tr.nil.set b x:Tr ABlk).get b'=some z→b'=b∧z=x:=fun b' z hz=>by
  rw[Tr.get_set] at hz
  by_cases e:b'=b
  ·rw[if_pos e] at hz
   exact⟨e,(oI hz).symm⟩
  ·rw[if_neg e,Tr.get_nil] at hz; cases hz
 have hone:HR ⟨⟨n.n,fun q=>q<w.heap.size∧q ≠ cf⟩,X⟩ σ ⟨Tr.nil.set b x,big,big⟩ w:=
  ⟨⟨hr.base.1,fun c hc=>hc.1,hr.base.2.2⟩,fun b' z hz=>by
   obtain⟨rfl,rfl⟩:=hget b' z hz
   exact⟨cf,0,m,h1,⟨h2.1,fun hq=>hq.2 rfl⟩,h4⟩,fun b₁ b₂ x₁ x₂ c d₁ m₁ d₂ m₂ g1 g2 _ _=>by
   rw[(hget _ _ g1).1,(hget _ _ g2).1],fun b' t h=>Nat.lt_of_lt_of_le (hr.dom b' t h) hb,hr.img,(fun b' h=>⟨Nat.lt_of_lt_of_le (hr.hol b' h).1 hb,(hr.hol b' h).2⟩),hr.frz⟩
 obtain⟨dst,op,ty,pos,after,guard⟩:=o
 cases op with
 | insert t p k u=>
  simp only[opOk,bA] at hop
  obtain⟨rfl,w',r1,r2,r3⟩:=qyq_ (P:=P) hone h (ev_ok (a:=a) hT hop.1.1) (ev_ok (a:=a) hT hop.1.2) (ev_ok (a:=a) hT hop.2)
  refine⟨fun c=>by simp,cf,m,w',h1,h2,h5,by simp only[execOp,Sem.run_bind,r1,Result.andThen_ok,Sem.run_pure],rfl,?_,r3.below,fun q hq hne=>(r3.keep q hq (.inl ⟨hq,hne⟩)).1⟩
  obtain⟨c,d,m',s1,_,s3⟩:=r2.blk b y hy
  rw[h1] at s1
  injection s1 with s1
  injection s1 with s1 s2
  injection s2 with s2 s4
  subst s1 s2 s4
  exact⟨cf,m,h1,h2,Nat.lt_of_lt_of_le h3 r3.below.size,s3,h5⟩
 | _=>cases hi
def Seen (p:Plan)(ops:List Oper)(f c:Nat):Prop:=∃ i,i<ops.length∧chgAt ops i=true∧p.n i<c∧p.before f i=true
theorem seenBy_not {p:Plan}{ops:List Oper}{f c:Nat}(h:qz1_ p ops f c=false):¬ Seen p ops f c:=by
 rintro ⟨i,h1,h2,h3,h4⟩
 unfold qz1_ at h
 rw[List.any_eq_false] at h
 refine h i (by simpa using h1) ?_
 simp only[bA]
 exact⟨⟨h2,by simpa [Nat.blt_eq] using h3⟩,h4⟩
structure Row (p:Plan) (ops:List Oper) (j:Nat) (o:Oper):Prop where
 edge:∀ e∈o.after.toList,Region.binds .any e=true→e.on<j
 mask:p.m j=qqk_ p.ms o.after.toList
 next:p.n (j+1)=if isCh2 o.op=true then p.n j+1 else p.n j
 le:p.c j≤p.n j
 full:isCh2 o.op=true→p.c j=p.n j
 pair:∀ i,i<j→(p.before i j=true∨apartAt ops i j=true)∧(chgAt ops i=true→(p.before i j=true ↔ p.n i<p.c j))
 news:∀ f∈p.f j,f<j∧p.before f j=true∧¬ Seen p ops f (p.c j)
 wide:isFlt o.op=true→j<p.wd
 newf:∀ f∈p.f j,fltAt ops f=true
theorem row_of {p:Plan}{ops:List Oper}{j:Nat}(h:rowOk p ops j=true):∃ o,ops[j]?=some o∧Row p ops j o:=by
 unfold rowOk at h
 split at h
 ·cases h
 ·rename_i o ho
  simp only[bA] at h
  obtain⟨⟨⟨⟨⟨⟨⟨h1,h2⟩,h3⟩,h4⟩,h5⟩,h6⟩,h7⟩,h8⟩:=h
  refine⟨o,ho,⟨fun e he hb=>?_,nB h2,?_,qd1_ h4,fun hc=>?_,fun i hi=>?_,fun f hf=>?_,fun hf=>?_,fun f hf=>?_⟩⟩
  ·have:=List.all_eq_true.1 h1 e he
   simp only[Bool.or_eq_true,Bool.not_eq_true'] at this
   rcases this with h | h
   ·rw[hb] at h; cases h
   ·exact qfr_ h
  ·have:=nB h3
   rw[this]
   cases isCh2 o.op<;>rfl
  ·rw[hc] at h5
   exact nB (by simpa using h5)
  ·have:=List.all_eq_true.1 h6 i (by simpa using hi)
   unfold pairOk at this
   simp only[bA,Bool.or_eq_true,Bool.not_eq_true'] at this
   refine⟨this.1,fun hc=>?_⟩
   rcases this.2 with h | h
   ·rw[hc] at h; cases h
   ·have h:=eq_of_beq h
    rw[h]
    exact⟨qfr_,fun h=>by simpa [Nat.blt_eq] using h⟩
  ·have:=List.all_eq_true.1 h7 f hf
   simp only[newOk,bA,Bool.not_eq_true'] at this
   exact⟨qfr_ this.1.1.1,this.1.1.2,seenBy_not this.1.2⟩
  ·rw[hf] at h8
   exact qfr_ (by simpa using h8)
  ·have:=List.all_eq_true.1 h7 f hf
   simp only[newOk,bA,Bool.not_eq_true'] at this
   exact this.2
section rows
variable {p:Plan} {ops:List Oper} (hrow:∀ j,j<ops.length→∃ o,ops[j]?=some o∧Row p ops j o)
include hrow
theorem n_mono {i j:Nat}(hij:i≤j)(hj:j≤ops.length):p.n i≤p.n j:=by
 induction j with
 | zero=>
      have:i=0:=by omega
      subst this; exact Nat.le_refl _
 | succ j ih=>
  by_cases e:i=j+1
  ·subst e; exact Nat.le_refl _
  ·obtain⟨o,ho,r⟩:=hrow j (by omega)
   have:=ih (by omega) (by omega)
   rw[r.next]
   split<;>omega
theorem n_lt {i j:Nat}(hij:i<j)(hj:j≤ops.length)(hc:chgAt ops i=true):p.n i<p.n j:=by
 obtain⟨o,ho,r⟩:=hrow i (by omega)
 have hco:isCh2 o.op=true:=by simpa [chgAt,ho] using hc
 have h1:p.n (i+1)=p.n i+1:=by rw[r.next,if_pos hco]
 have:=n_mono hrow (i:=i+1) (j:=j) hij hj
 omega
theorem n_hit (h0:p.n 0=0){c j:Nat}(hj:j≤ops.length)(hc:c<p.n j):∃ i,i<j∧chgAt ops i=true∧p.n i=c:=by
 induction j with
 | zero=>omega
 | succ j ih=>
  obtain⟨o,ho,r⟩:=hrow j (by omega)
  by_cases h:c<p.n j
  ·obtain⟨i,h1,h2,h3⟩:=ih (by omega) h
   exact⟨i,by omega,h2,h3⟩
  ·rw[r.next] at hc
   split at hc
   ·rename_i hco
    exact⟨j,by omega,by simpa [chgAt,ho] using hco,by omega⟩
   ·omega
theorem qxa_ {S:Nat→Bool}(hcl:∀ j o,S j=true→ops[j]?=some o→∀ e∈o.after.toList,Region.binds .any e=true→S e.on=true) :
  ∀ (j:Nat),j<ops.length→(∀ o,ops[j]?=some o→∀ e∈o.after.toList,Region.binds .any e=true→S e.on=true)→∀ i,p.before i j=true→S i=true:=by
 intro j
 induction j using Nat.strongRecOn with
 | _ j ih=>
  intro hj hed i hi
  obtain⟨o,ho,r⟩:=hrow j hj
  unfold Plan.before at hi
  rw[r.mask] at hi
  obtain⟨e,he,hb,hcase⟩:=qsk_ hi
  have hS:=hed o ho e he hb
  rcases hcase with rfl | hcase
  ·exact hS
  ·exact ih e.on (r.edge e he hb) (by have:=r.edge e he hb; omega) (fun o' ho' e' he' hb'=>hcl e.on o' hS ho' e' he' hb') i hcase
theorem qtq_:∀ (j:Nat),j<ops.length→∀ i,p.before i j=true→i<j:=by
 intro j
 induction j using Nat.strongRecOn with
 | _ j ih=>
  intro hj i hi
  obtain⟨o,ho,r⟩:=hrow j hj
  unfold Plan.before at hi
  rw[r.mask] at hi
  obtain⟨e,he,hb,hcase⟩:=qsk_ hi
  have h1:=r.edge e he hb
  rcases hcase with rfl | hcase
  ·exact h1
  ·exact Nat.lt_trans (ih e.on h1 (by omega) i hcase) h1
end rows
end Go.Proofs.YthlikofobjhcoaaGreat.Ax
namespace Go.Proofs.YthlikofobjhcoaaGreat.Ax
open Go.RowKit
variable [Tabs]
theorem qsl_ {ops:Array Oper}{o:Oper}{t:Nat}(h:Operand.tmp t∈o.op.operands):t∈o.looksAt ops:=
 List.mem_append_left _ (List.mem_filterMap.2 ⟨.tmp t,by simpa using h,rfl⟩)
theorem q0q_ {ops:List Oper}{o:Oper}{g:Nat}{b:Bool}(hg:o.guard=some (g,b)){d:Nat}(hd:dstOf ops g=some d):d∈o.looksAt ⟨ops⟩:=by
 refine List.mem_append_right _ ?_
 have:((⟨ops⟩:Array Oper)[g]?).bind (·.dst)=some d:=by simpa [dstOf] using hd
 rw[hg]
 simp only[this]
 simp
theorem guardOk_congr {ops:List Oper}{o:Oper}{T T':Tr Value}(h:∀ t∈o.looksAt ⟨ops⟩,tget T t=tget T' t):qnk_ ops o T=qnk_ ops o T':=by
 unfold qnk_
 cases hg:o.guard with
 | none=>rfl
 | some g=>
  obtain⟨j,b⟩:=g
  simp only[oc_some]
  cases hd:dstOf ops j with
  | none=>rfl
  | some d=>
   simp only[oc_some]
   rw[h d (q0q_ hg hd)]
theorem wantedA_congr {ops:List Oper}{o:Oper}{T T':Tr Value}(h:∀ t∈o.looksAt ⟨ops⟩,tget T t=tget T' t):qf2_ ops o T=qf2_ ops o T':=by
 unfold qf2_
 cases hg:o.guard with
 | none=>rfl
 | some g=>
  obtain⟨j,b⟩:=g
  simp only[oc_some]
  cases hd:dstOf ops j with
  | none=>rfl
  | some d=>
   simp only[oc_some]
   rw[h d (q0q_ hg hd)]
theorem chg_of {op:Op}(hc:isCh2 op=false)(hi:isIns op=false):isChg op=false:=by
 unfold isCh2 at hc
 rw[hi] at hc
 simpa using hc
def Kept (X:Nat→Prop)(base wd:Nat)(S:Nat→Bool)(b:Nat):Prop:=X b∨∃ f,f<wd∧S f=false∧b=base+f
theorem Kept.less {X:Nat→Prop}{base wd j:Nat}{S:Nat→Bool}{b:Nat}(h:Kept X base wd (withJ S j) b):Kept X base wd S b:=by
 rcases h with h | ⟨f,h1,h2,h3⟩
 ·exact .inl h
 ·refine .inr ⟨f,h1,?_,h3⟩
  unfold withJ at h2
  by_cases e:f=j
  ·rw[if_pos e] at h2; cases h2
  ·rwa [if_neg e] at h2
structure Inv (P:Program) (n:Base) (X:Nat→Prop) (N base:Nat) (ops:List Oper) (p:Plan) (v:Nat→Value) (G:Nat→AH) (C:Nat→Option ABlk) (R:Nat→List Nat) (T0:Tr Value) (σ0:Ren) (w0:World) (D:List Deferred) (S:Nat→Bool) (σ:Ren) (c lo:Nat) (a:Act) (w:World):Prop where
 tmps:TR σ N (TS ops v T0 S ops.length) a.tmps
 heap:∀ k,lo≤k→k≤c→HR ⟨n,Kept X base p.wd S⟩ σ (wideB (G k)) w
 cur:HR ⟨n,Kept X base p.wd S⟩ σ (G c) w
 step:Step ⟨n,X⟩ σ0 w0 (G c).low σ w
 defs:a.defers=D
 pre:∀ i,i<ops.length→chgAt ops i=true→(S i=true ↔ p.n i<c)
 loc:lo≤c
 lov:∀ j o,ops[j]?=some o→S j=false→isMem P o.op=true→qf2_ ops o (Tseq ops v T0 j)=true→lo≤p.c j∨p.c j≤c∧HR ⟨n,Kept X base p.wd S⟩ σ (oneB (R j) (addFs (finB p ops C) base (p.f j) (G (p.c j)))) w∧∀ f∈p.f j,∀ i,findI p.is i=some f→S i=true
 whole:∀ f x,f<ops.length→fltAt ops f=true→S f=true→C (lstS p.is S f ops.length)=some x→¬ Seen p ops f lo→Whole n σ w (base+f) x
 closed:∀ j o,S j=true→ops[j]?=some o→∀ e∈o.after.toList,Region.binds .any e=true→S e.on=true
 cn:c≤p.n ops.length
 nx:(G c).next≤big
theorem addB_get {g:Nat→Option ABlk}{base:Nat}{B:Tr ABlk}{b:Nat}{z:ABlk}:∀ {fs:List Nat},(addB g base fs B).get b=some z→(∃ f∈fs,b=base+f)∨B.get b=some z
 | [],h=>.inr h
 | f::fs,h=>by
  have h:(oc (g f) (addB g base fs B) fun x=>(addB g base fs B).set (Nat.add base f) x).get b=some z:=h
  cases hg:g f with
  | none=>
   rw[hg] at h
   rcases addB_get (fs:=fs) h with⟨f',h1,h2⟩ | h
   ·exact .inl ⟨f',.tail _ h1,h2⟩
   ·exact .inr h
  | some x=>
   rw[hg,oc_some,Tr.get_set] at h
   by_cases e:b=Nat.add base f
   ·exact .inl ⟨f,.head _,e⟩
   ·rw[if_neg e] at h
    rcases addB_get (fs:=fs) h with⟨f',h1,h2⟩ | h
    ·exact .inl ⟨f',.tail _ h1,h2⟩
    ·exact .inr h
theorem Inv.next_ok {P:Program}{F:Fence}{nn:Nat}{n:Base}{X:Nat→Prop}{N base:Nat}{call:Nat→CallT}(hcall:∀ j,qn1_ P n.n (call j))(hF:WideF F){ops:List Oper}{p:Plan}{v:Nat→Value}{G:Nat→AH}{C:Nat→Option ABlk}{R:Nat→List Nat}{T0:Tr Value}{σ0:Ren}{w0:World}{D:List Deferred}{S:Nat→Bool}{σ:Ren}{c lo:Nat}{a:Act}{w:World}
  (hrow:∀ j,j<ops.length→∃ o,ops[j]?=some o∧Row p ops j o) (h0:p.n 0=0) (hall:qsg_ N ops=true) (hfacts:∀ j o,ops[j]?=some o→Fact P call ops p base v G C R T0 j o) (inv:Inv P n X N base ops p v G C R T0 σ0 w0 D S σ c lo a w)
  (hXb:∀ b,X b→b<base) (his:∀ j f,findI p.is j=some f→InsRow p ops j f) (hend:∀ j f,findI p.is j=some f→∀ c,c≤p.n ops.length→(G c).low≤base∧(qz1_ p ops f c=true∨hasB (G c) (base+f)=false)) {j:Nat} (hj:j<ops.length) {o:Oper} (ho:ops[j]?=some o) (hS:S j=false) (hed:∀ e∈o.after.toList,Region.binds .any e=true→S e.on=true)
  {K:Act→World→Prop} {Q:Exit→Act→World→Prop} (hK:∀ a' w' σ' c' lo',Inv P n X N base ops p v G C R T0 σ0 w0 D (withJ S j) σ' c' lo' a' w'→K a' w') :
  qnk_ ops o (TS ops v T0 S ops.length)=true∧if qf2_ ops o (TS ops v T0 S ops.length)=true then o.wpIn F nn P a w K Q else K (a.put o.dst undef) w:=by
 have fact:=hfacts j o ho
 obtain⟨o',ho',row⟩:=hrow j hj
 rw[ho] at ho'
 obtain rfl:=oI ho'
 have hok:=qpn_ hall o (List.mem_of_getElem? ho)
 simp only[operOk,bA] at hok
 have hdst:dstOf ops j=o.dst:=by simp[dstOf,ho]
 have hco:chgAt ops j=isCh2 o.op:=by simp[chgAt,ho]
 have hbef:∀ i,p.before i j=true→S i=true:=qxa_ hrow inv.closed j hj (fun o' ho'=>by rw[ho] at ho'; obtain rfl:=oI ho'; exact hed)
 have hbeh:∀ i,i<ops.length→p.before j i=true→S i=false:=fun i hi hb=>by
  cases hs:S i with
  | false=>rfl
  | true=>
   have:=qxa_ hrow inv.closed i hi (fun o' ho'=>inv.closed i o' hs ho') j hb
   rw[hS] at this; cases this
 have hmono:∀ i,S i=true→withJ S j i=true:=fun i h=>by
  unfold withJ; split<;>first | rfl | exact h
 have hnoI:isIns o.op=false→findI p.is j=none:=fun e=>by
  cases hi:findI p.is j with
  | none=>rfl
  | some f=>
   have:=(his j f hi).ins
   simp only[insAt,ho] at this
   rw[this] at e; cases e
 have hsameS:isIns o.op=false→∀ f,lstS p.is (withJ S j) f ops.length=lstS p.is S f ops.length:=fun e f=>qtp_ fun i hi hf=>by
  unfold withJ
  by_cases e2:i=j
  ·rw[e2,hnoI e] at hf; cases hf
  ·rw[if_neg e2]
 have hselfS:lstS p.is (withJ S j) j ops.length=j:=by
  rw[q1p_ (j:=0) (Nat.zero_le _) fun i _ hi hf=>?_]
  ·rfl
  ·have ir:=his i j hf
   unfold withJ
   rw[if_neg (by have:=ir.ft; omega)]
   exact hbeh i hi ir.bef
 have hdoneS:∀ f,(∀ i,findI p.is i=some f→S i=true)→∀ {x:ABlk},finB p ops C f=some x→C (lstS p.is S f ops.length)=some x:=fun f h x hx=>by
  rw[qtp_ (S':=fun _=>true) fun i _ hf=>h i hf]; exact hx
 have hnf:isFlt o.op=false→fltAt ops j=false:=fun e=>by simp[fltAt,ho,e]
 have hpair:∀ i,i<ops.length→i ≠ j→(∃ oi,ops[i]?=some oi∧((i<j∧(S i=true∨Oper.apart ⟨ops⟩ oi o=true))∨(j<i∧(S i=false∨Oper.apart ⟨ops⟩ o oi=true)))):=by
  intro i hi hij
  obtain⟨oi,hoi,ri⟩:=hrow i hi
  refine⟨oi,hoi,?_⟩
  rcases Nat.lt_or_ge i j with h | h
  ·refine .inl ⟨h,?_⟩
   rcases (row.pair i h).1 with hb | hap
   ·exact .inl (hbef i hb)
   ·refine .inr ?_
    simpa [apartAt,hoi,ho] using hap
  ·have hlt:j<i:=by omega
   refine .inr ⟨hlt,?_⟩
   rcases (ri.pair j hlt).1 with hb | hap
   ·exact .inl (hbeh i hi hb)
   ·refine .inr ?_
    simpa [apartAt,hoi,ho] using hap
 have hlook:∀ t∈o.looksAt ⟨ops⟩,tget (TS ops v T0 S ops.length) t=tget (Tseq ops v T0 j) t:=by
  intro t ht
  refine TS_agree (Nat.le_of_lt hj) fun i hi hd=>?_
  by_cases hij:i=j
  ·subst hij; rw[hS]; exact⟨fun h=>(by cases h),fun h=>absurd h (Nat.lt_irrefl _)⟩
  ·obtain⟨oi,hoi,hcase⟩:=hpair i hi hij
   have hdi:oi.dst=some t:=by simpa [dstOf,hoi] using hd
   rcases hcase with⟨h1,h2⟩ | ⟨h1,h2⟩
   ·rcases h2 with h2 | h2
    ·exact⟨fun _=>h1,fun _=>h2⟩
    ·exact absurd ht ((Oper.apart_spec h2).1 t hdi)
   ·rcases h2 with h2 | h2
    ·rw[h2]; exact⟨fun h=>(by cases h),fun h=>(by omega)⟩
    ·exact absurd ht ((Oper.apart_spec h2).2.2 t hdi)
 have hwant:=wantedA_congr hlook
 refine⟨(guardOk_congr hlook).trans fact.gok,?_⟩
 have hev:∀ H,qgd_ P (call j) o.op o.type (TS ops v T0 S ops.length) H=qgd_ P (call j) o.op o.type (Tseq ops v T0 j) H:=fun H=>
  evalOp_congr fun x hx=>ev_congr fun t e=>hlook t (qsl_ (e ▸ hx))
 have htm:∀ {σ':Ren} {v':Value},σ.Ext σ'→VR σ' (v j) v'→TR σ' N (TS ops v T0 (withJ S j) ops.length) (a.put o.dst v').tmps:=fun hx hv=>by
  refine TR.congr (qyt_ (inv.tmps.mono hx) hok.2 hv) fun t=>?_
  rw[TS_next hj fun i h1 h2 h3 h4=>?_,hdst]
  obtain⟨oi,hoi,hcase⟩:=hpair i h2 (by omega)
  rcases hcase with⟨h,_⟩ | ⟨_,h⟩
  ·omega
  ·rcases h with h | h
   ·exact h
   ·have hdi:oi.dst=some t:=by simpa [dstOf,hoi] using h3
    exact absurd hdi ((Oper.apart_spec h).2.1 t (by rw[←hdst]; exact h4))
 have hcl:∀ j' o',withJ S j j'=true→ops[j']?=some o'→∀ e∈o'.after.toList,Region.binds .any e=true→withJ S j e.on=true:=by
  intro j' o' hs ho' e he hb
  unfold withJ at hs ⊢
  by_cases e1:e.on=j
  ·rw[if_pos e1]
  ·rw[if_neg e1]
   by_cases e2:j'=j
   ·subst e2
    rw[ho] at ho'
    obtain rfl:=oI ho'
    exact hed e he hb
   ·rw[if_neg e2] at hs
    exact inv.closed j' o' hs ho' e he hb
 have hX:∀ b,Kept X base p.wd (withJ S j) b→Kept X base p.wd S b:=fun b h=>h.less
 have hSj:∀ i,withJ S j i=false→i ≠ j∧S i=false:=fun i h=>by
  unfold withJ at h
  by_cases e:i=j
  ·rw[if_pos e] at h; cases h
  ·rw[if_neg e] at h; exact⟨e,h⟩
 have hlov:∀ j' o',ops[j']?=some o'→withJ S j j'=false→isMem P o'.op=true→qf2_ ops o' (Tseq ops v T0 j')=true→lo≤p.c j'∨p.c j'≤c∧HR ⟨n,Kept X base p.wd (withJ S j)⟩ σ (oneB (R j') (addFs (finB p ops C) base (p.f j') (G (p.c j')))) w∧∀ f∈p.f j',∀ i,findI p.is i=some f→withJ S j i=true:=fun j' o' h1 h2 h3 hw3=>
  (inv.lov j' o' h1 (hSj j' h2).2 h3 hw3).imp id fun h=>⟨h.1,h.2.1.setX hX,fun f hf i hi=>hmono i (h.2.2 f hf i hi)⟩
 have hcc:p.c j≤c:=by
  rcases Nat.lt_or_ge c (p.c j) with h | h
  ·obtain⟨i,h1,h2,h3⟩:=n_hit hrow h0 (j:=j) (Nat.le_of_lt hj) (c:=c) (Nat.lt_of_lt_of_le h row.le)
   have:=hbef i (((row.pair i h1).2 h2).2 (by omega))
   have:=(inv.pre i (by omega) h2).1 this
   omega
  ·exact h
 have hnew:lo≤p.c j→∀ f∈p.f j,∀ x,finB p ops C f=some x→Whole n σ w (base+f) x:=fun hl f hf x hx=>by
  obtain⟨h1,h2,h3⟩:=row.news f hf
  refine inv.whole f x (by omega) (row.newf f hf) (hbef f h2) (hdoneS f (fun i hi=>hbef i ((his i f hi).new j hj hf)) hx) fun hs=>h3 ?_
  obtain⟨i,g1,g2,g3,g4⟩:=hs
  exact⟨i,g1,g2,Nat.lt_of_lt_of_le g3 hl,g4⟩
 have stay:isCh2 o.op=false→isIns o.op=false→(fltAt ops j=true→C j=none)→∀ {v':Value},VR σ (v j) v'→Inv P n X N base ops p v G C R T0 σ0 w0 D (withJ S j) σ c lo (a.put o.dst v') w:=fun hc hi hb v' hv=>
  ⟨htm (.refl σ) hv,fun k h1 h2=>(inv.heap k h1 h2).setX hX,inv.cur.setX hX,inv.step,by rw[Act.put_defers']; exact inv.defs,fun i hi hci=>by
   have hij:i ≠ j:=fun e=>by subst e; rw[hco,hc] at hci; cases hci
   unfold withJ; rw[if_neg hij]; exact inv.pre i hi hci,inv.loc,hlov,fun f x hf hft hs hx hseen=>by
   by_cases e:f=j
   ·subst e; rw[hselfS,hb hft] at hx; cases hx
   ·unfold withJ at hs
    rw[if_neg e] at hs
    rw[hsameS hi] at hx
    exact inv.whole f x hf hft hs hx hseen,hcl,inv.cn,inv.nx⟩
 have hcn:isCh2 o.op=true→c=p.n j:=fun hc=>by
  have h1:c≤p.n j:=by
   rcases Nat.lt_or_ge (p.n j) c with h | h
   ·have:=(inv.pre j hj (by rw[hco]; exact hc)).2 h
    rw[hS] at this; cases this
   ·exact h
  have h2:=row.full hc
  omega
 have hpre:isCh2 o.op=true→∀ i,i<ops.length→chgAt ops i=true→(withJ S j i=true ↔ p.n i<c+1):=fun hc i hi hci=>by
  have hcj:=hcn hc
  unfold withJ
  by_cases e:i=j
  ·subst e; rw[if_pos rfl]; exact⟨fun _=>by omega,fun _=>rfl⟩
  ·rw[if_neg e,inv.pre i hi hci]
   have hne:p.n i ≠ c:=by
    rcases Nat.lt_or_ge i j with h | h
    ·have:=n_lt hrow h (Nat.le_of_lt hj) hci; omega
    ·have:=n_lt hrow (i:=j) (j:=i) (by omega) (Nat.le_of_lt hi) (by rw[hco]; exact hc); omega
   omega
 have hcn1:isCh2 o.op=true→c+1≤p.n ops.length:=fun hc=>by
  have:=n_lt hrow hj (Nat.le_refl _) (by rw[hco]; exact hc)
  have:=hcn hc
  omega
 by_cases hw:qf2_ ops o (TS ops v T0 S ops.length)=true
 ·rw[if_pos hw]
  rw[hwant] at hw
  cases hins:isIns o.op with
  | true=>
   obtain⟨f,x,H1,y,hf0,hcx,h1,hy,hcy⟩:=fact.ins hw hins
   obtain⟨hc,hfl,hm⟩:=ins_not (P:=P) hins
   have ir:=his j f hf0
   rw[←hev] at h1
   have hnS:∀ k,k≤c→¬ Seen p ops f k:=fun k hk hs=>by
    obtain⟨i,g1,g2,g3,g4⟩:=hs
    have:=hbeh i g1 (ir.chg i g1 g2 g4)
    rw[(inv.pre i g1 g2).2 (by omega)] at this; cases this
   have hnB:∀ k,k≤c→(G k).blocks.get (base+f)=none:=fun k hk=>by
    rcases (hend j f hf0 k (Nat.le_trans hk inv.cn)).2 with h | h
    ·refine absurd ?_ (hnS k hk)
     unfold qz1_ at h
     obtain⟨i,g1,g2⟩:=List.any_eq_true.1 h
     simp only[bA] at g2
     exact⟨i,by simpa using g1,g2.1.1,qfr_ g2.1.2,g2.2⟩
    ·cases hg:(G k).blocks.get (base+f) with
     | none=>rfl
     | some z=>simp only[hasB,hg,oc_some] at h; cases h
   have hlS:lstS p.is S f ops.length=lst p.is f j:=lstS_agree (Nat.le_of_lt hj) fun i hi hfi=>by
    rcases ir.one i hfi with e | h | h
    ·rw[e,hS]; exact⟨fun h=>(by cases h),fun h=>absurd h (Nat.lt_irrefl _)⟩
    ·exact⟨fun _=>qtq_ hrow j hj i h,fun _=>hbef i h⟩
    ·rw[hbeh i hi h]
     have:=qtq_ hrow i hi j h
     exact⟨fun h=>(by cases h),fun h=>by omega⟩
   have hwh:=inv.whole f x (Nat.lt_trans ir.ft hj) ir.flt (hbef f ir.bef) (by rw[hlS]; exact hcx) (hnS lo inv.loc)
   obtain⟨hd,cf,m,w',s1,s2,s3,r1,r2,hwh',hbel,hun⟩:=insOp_ok (P:=P) inv.tmps inv.cur inv.nx hok.1 hins hwh h1 hy
   have asideI:∀ H,HR ⟨n,Kept X base p.wd S⟩ σ H w→H.blocks.get (base+f)=none→HR ⟨n,Kept X base p.wd (withJ S j)⟩ σ H w':=fun H hr hno=>
    HR.aside2 hr hbel.block (.refl σ) hun hbel.size (fun b z c' d' m' hb hs e=>by
     subst e
     rw[s3 b d' m' hs,hno] at hb
     cases hb) hr.dom (fun b c' d' m' h=>Nat.lt_of_lt_of_le (hr.img b c' d' m' h) hbel.size) (fun b h=>hr.hol b (hX b h)) (hr.frz.mono (fun _ _ _ h=>h) hbel.size fun c hc hn=>⟨hun c hc fun e=>hn _ _ s1 e.symm,hn⟩)
   have hst:Step ⟨n,X⟩ σ w (G c).low σ w':=⟨.refl σ,hbel,fun q hq hor=>⟨hun q hq fun e=>by
    subst e
    rcases hor with h | h
    ·exact s2.2 h
    ·have h1:=h _ _ _ s1
     have h2:=(hend j f hf0 c inv.cn).1
     omega,fun b d' m' h=>h⟩,fun _ _ _ _ _ h=>h⟩
   refine⟨fun f _=>hF.fn f,?_⟩
   rw[Oper.semAt_eq F.round a.eval o hd,r1]
   refine hK _ _ σ c lo ⟨htm (.refl σ) (by rw[r2]; exact qo4_ σ),fun k g1 g2=>asideI _ (inv.heap k g1 g2) (hnB k g2),asideI _ inv.cur (hnB c (Nat.le_refl _)),inv.step.trans hst (Nat.le_refl _),by rw[Act.put_defers']; exact inv.defs,fun i hi hci=>?_,inv.loc,fun j' o' g1 g2 g3 g4=>?_,fun f' x' hf' hft hs hx hseen=>?_,hcl,inv.cn,inv.nx⟩
   ·have hij:i ≠ j:=fun e=>by subst e; rw[hco,hc] at hci; cases hci
    unfold withJ; rw[if_neg hij]; exact inv.pre i hi hci
   ·refine (inv.lov j' o' g1 (hSj j' g2).2 g3 g4).imp id fun h=>⟨h.1,asideI _ h.2.1 ?_,fun f' hf' i hi=>hmono i (h.2.2 f' hf' i hi)⟩
    cases hg:(oneB (R j') (addFs (finB p ops C) base (p.f j') (G (p.c j')))).blocks.get (base+f) with
    | none=>rfl
    | some z=>
     rcases addB_get (qou_ hg).2 with⟨f',q1,q2⟩ | h2
     ·have:f'=f:=by omega
      subst this
      have:=h.2.2 f' q1 j hf0
      rw[hS] at this; cases this
     ·rw[hnB _ h.1] at h2; cases h2
   ·by_cases e:f'=j
    ·rw[e,hnf hfl] at hft; cases hft
    ·unfold withJ at hs
     rw[if_neg e] at hs
     by_cases e2:f'=f
     ·subst e2
      have:lstS p.is (withJ S j) f' ops.length=j:=by
       have h2:lstS p.is (withJ S j) f' ops.length=lst p.is f' (j+1):=lstS_agree hj fun i hi hfi=>by
        unfold withJ
        by_cases e3:i=j
        ·rw[if_pos e3]; exact⟨fun _=>by omega,fun _=>rfl⟩
        ·rw[if_neg e3]
         rcases ir.one i hfi with e | h | h
         ·exact absurd e e3
         ·have:=qtq_ hrow j hj i h
          exact⟨fun _=>by omega,fun _=>hbef i h⟩
         ·rw[hbeh i hi h]
          have:=qtq_ hrow i hi j h
          exact⟨fun h=>(by cases h),fun h=>by omega⟩
       rw[h2,qsj_,if_pos hf0]
      rw[this,hcy] at hx
      obtain rfl:=oI hx
      exact hwh'
     ·rw[qtp_ (S':=S) fun i _ hfi=>by
       unfold withJ
       by_cases e3:i=j
       ·rw[e3,hf0] at hfi
        exact absurd (oI hfi).symm e2
       ·rw[if_neg e3]] at hx
      exact (inv.whole f' x' hf' hft hs hx hseen).aside2 (.refl σ) hun hbel.size s1 (fun e3=>e2 (by omega)) fun _ _ _ _ h=>.inl h
  | false=>
  cases hfl:isFlt o.op with
  | true=>
   obtain⟨r,h1,h2,h3⟩:=fact.flt hw hfl
   have hc:isCh2 o.op=false:=by
    cases e:isCh2 o.op with
    | false=>rfl
    | true=>rw[qwp_ e] at hfl; cases hfl
   rw[←fltOp_congr (P:=P) (X:=base+j) fun x hx=>ev_congr fun t e=>hlook t (qsl_ (e ▸ hx))] at h1
   have hkept:Kept X base p.wd S (base+j):=.inr ⟨j,row.wide hfl,hS,rfl⟩
   have hne:∀ b,Kept X base p.wd (withJ S j) b→Kept X base p.wd S b∧b ≠ base+j:=fun b h=>by
    refine⟨hX b h,fun e=>?_⟩
    rcases h with h | ⟨f,h1,h2,h3⟩
    ·have:=hXb b h; omega
    ·have:f=j:=by omega
     rw[this] at h2
     simp[withJ] at h2
   obtain⟨hd,x',m,v',r2,r3,hbr⟩:=flt_ok (w:=w) inv.tmps hok.1 (inv.cur.hol _ hkept).2 h1
   have hext:=ext_kept (inv.cur.hol _ hkept).2 (w.heap.size,0,m)
   refine⟨fun f _=>hF.fn f,?_⟩
   rw[Oper.semAt_eq F.round a.eval o hd,r2]
   refine hK _ _ (σ.put (base+j) (w.heap.size,0,m)) c lo ⟨htm hext (by rw[h2]; exact r3),fun k g1 g2=>(inv.heap k g1 g2).kept hkept _ _ hne,inv.cur.kept hkept _ _ hne,
    inv.step.trans (Step.kept inv.cur hkept _ _ _) (Nat.le_refl _),by rw[Act.put_defers']; exact inv.defs,fun i hi hci=>?_,inv.loc,fun j' o' g1 g2 g3 g4=>?_,fun f x hf hft hs hx hseen=>?_,hcl,inv.cn,inv.nx⟩
   ·have hij:i ≠ j:=fun e=>by subst e; rw[hco,hc] at hci; cases hci
    unfold withJ; rw[if_neg hij]; exact inv.pre i hi hci
   ·exact (inv.lov j' o' g1 (hSj j' g2).2 g3 g4).imp id fun h=>⟨h.1,h.2.1.kept hkept _ _ hne,fun f hf i hi=>hmono i (h.2.2 f hf i hi)⟩
   ·by_cases e:f=j
    ·subst e
     rw[hselfS,h3] at hx
     obtain rfl:=oI hx
     exact Whole.new inv.cur _ _ hbr
    ·unfold withJ at hs
     rw[if_neg e] at hs
     rw[hsameS hins] at hx
     exact (inv.whole f x hf hft hs hx hseen).kept inv.cur hkept _ _
  | false=>
  have hnb:fltAt ops j=true→C j=none:=fun h=>by rw[hnf hfl] at h; cases h
  cases hc:isCh2 o.op with
  | false=>
   cases hm:isMem P o.op with
   | false=>
    obtain⟨H0,H1,h1⟩:=fact.pur hw hfl hc hm hins
    rw[←hev] at h1
    obtain⟨_,hd,v',r1,r2⟩:=q1j_ (P:=P) inv.tmps inv.cur hok.1 (chg_of hc hins) hfl (pure_any (chg_of hc hins) hfl hm h1 (G c))
    refine⟨fun f _=>hF.fn f,?_⟩
    rw[Oper.semAt_eq F.round a.eval o hd,r1]
    exact hK _ _ σ c lo (stay hc hins hnb r2)
   | true=>
    obtain⟨⟨H1,h1⟩,_⟩:=fact.mem hw hfl hc hm
    rw[←hev] at h1
    have hone:HR ⟨n,Kept X base p.wd S⟩ σ (oneB (R j) (addFs (finB p ops C) base (p.f j) (G (p.c j)))) w:=by
     rcases inv.lov j o ho hS hm hw with hl | h
     ·exact (((inv.heap (p.c j) hl hcc).addFs (hnew hl)).small (Nat.le_refl _) (R j)).congr (fun _=>rfl) rfl
     ·exact h.2.1
    obtain⟨_,hd,v',r1,r2⟩:=q1j_ (P:=P) inv.tmps hone hok.1 (chg_of hc hins) hfl h1
    refine⟨fun f _=>hF.fn f,?_⟩
    rw[Oper.semAt_eq F.round a.eval o hd,r1]
    exact hK _ _ σ c lo (stay hc hins hnb r2)
  | true=>
   obtain⟨H1,h1,h2,h3,h4⟩:=fact.chg hw hc
   have hcj:=hcn hc
   have hl:lo≤p.c j:=by rw[row.full hc,←hcj]; exact inv.loc
   rw[←hcj] at h1 h2 h4
   have keepM:∀ {σ':Ren} {w':World},HR ⟨n,Kept X base p.wd (withJ S j)⟩ σ' (G (c+1)) w'→(G (c+1)).next≤big→∀ i,p.c i≤c→(∀ b∈R i,sameAt (addFs (finB p ops C) base (p.f i) (G (p.c i))) (G (c+1)) b=true)→(∀ f∈p.f i,p.before f j=true) →
     p.c i≤c+1∧HR ⟨n,Kept X base p.wd (withJ S j)⟩ σ' (oneB (R i) (addFs (finB p ops C) base (p.f i) (G (p.c i)))) w'∧∀ f∈p.f i,∀ i',findI p.is i'=some f→withJ S j i'=true:=by
    intro σ' w' hcur hnx i hci hsm hff
    have key:∀ b x,(pickB (addFs (finB p ops C) base (p.f i) (G (p.c i))).blocks (R i)).get b=some x→(G (c+1)).blocks.get b=some x:=fun b x hx=>by
     obtain⟨hb,hg⟩:=qou_ hx
     obtain⟨y,y1,y2⟩:=sameAt_spec (hsm b hb)
     rw[hg] at y1
     obtain rfl:=oI y1
     exact y2
    exact⟨by omega,⟨hcur.base,fun b x hx=>hcur.blk b x (key b x hx),fun b₁ b₂ x₁ x₂ c' d₁ m₁ d₂ m₂ g1 g2=>hcur.inj b₁ b₂ x₁ x₂ c' d₁ m₁ d₂ m₂ (key _ _ g1) (key _ _ g2),fun b t h=>Nat.lt_of_lt_of_le (hcur.dom b t h) hnx,hcur.img,(fun b h=>⟨Nat.lt_of_lt_of_le (hcur.hol b h).1 hnx,(hcur.hol b h).2⟩),hcur.frz⟩,
     fun f hf i' hi'=>hmono i' (hbef i' ((his i' f hi').chg j hj (by rw[hco]; exact hc) (hff f hf)))⟩
   rw[←hev] at h1
   have hcur0:=(inv.cur.addFs (hnew hl)).fresh'
   rcases (show ((G c).next≤H1.low∨qy4_ P p ops base j (addFs (finB p ops C) base (p.f j) (G c))=true∨(R j ≠ []∧oneN (R j)=false∧Mild P ops p base G C R j))∨_ from (by
    rcases h4 with h | h | h | h
    ·exact .inl (.inl h)
    ·exact .inl (.inr (.inl h))
    ·exact .inr h
    ·exact .inl (.inr (.inr h)))) with h4 | h4
   case inr=>
    obtain⟨bb,e1,eR,eh,e3⟩:=h4
    have e1':exB o.op (TS ops v T0 S ops.length)=some bb:=by
     rw[←e1]
     exact exB_congr fun x hx=>ev_congr fun t' e=>hlook t' (qsl_ (e ▸ hx))
    obtain⟨hd,k,d,m,w',v',σ',g1,⟨z,g2⟩,r1,r2,g3,g4,g5,g6⟩:=exactOp_ok (P:=P) inv.tmps hcur0 hok.1 e1' eh h1
    have hsz:=g4.below.size
    have hcur:HR ⟨n,Kept X base p.wd (withJ S j)⟩ σ' (G (c+1)) w':=by rw[h2]; exact (g3.back _).setX hX
    have hnx:(G (c+1)).next≤big:=by rw[h2]; exact h3
    have hst:Step ⟨n,X⟩ σ0 w0 (G (c+1)).low σ' w':=by
     rw[h2]
     exact (inv.step.lower (Nat.min_le_left _ _)).trans (g4.setX.lower (Nat.min_le_right _ _)) (Nat.le_refl _)
    have hall':∀ i,i<ops.length→pairSt P p ops base R j bb (addFs (finB p ops C) base (p.f j) (G c)) i=true:=fun i hi=>List.all_eq_true.1 e3 i (by simpa using hi)
    have hdb:∀ b t,σ' b=some t→b<big:=fun b t h=>Nat.lt_of_lt_of_le (g3.dom b t h) h3
    have keepR:∀ i oi,ops[i]?=some oi→S i=false→isMem P oi.op=true→qf2_ ops oi (Tseq ops v T0 i)=true→p.c i≤c→(∀ b'∈R i,b' ≠ bb∧hasB (addFs (finB p ops C) base (p.f j) (G c)) b'=true)→(∀ f∈p.f i,p.before f j=true) →
      p.c i≤c+1∧HR ⟨n,Kept X base p.wd (withJ S j)⟩ σ' (oneB (R i) (addFs (finB p ops C) base (p.f i) (G (p.c i)))) w'∧∀ f∈p.f i,∀ i',findI p.is i'=some f→withJ S j i'=true:=by
     intro i oi hoi hSi hrel hwi hci hrd hff
     have h5:i<ops.length:=by
      rcases Nat.lt_or_ge i ops.length with h | h
      ·exact h
      ·rw[List.getElem?_eq_none h] at hoi; cases hoi
     obtain⟨oi',hoi',ri⟩:=hrow i h5
     have hone:HR ⟨n,Kept X base p.wd S⟩ σ (oneB (R i) (addFs (finB p ops C) base (p.f i) (G (p.c i)))) w:=by
      rcases inv.lov i oi hoi hSi hrel hwi with hl | h
      ·refine (((inv.heap (p.c i) hl hci).addFs fun f hf y hy=>?_).small (Nat.le_refl _) (R i)).congr (fun _=>rfl) rfl
       obtain⟨q1,q2,q3⟩:=ri.news f hf
       refine inv.whole f y (by omega) (ri.newf f hf) (hbef f (hff f hf)) (hdoneS f (fun i' hi'=>hbef i' ((his i' f hi').chg j hj (by rw[hco]; exact hc) (hff f hf))) hy) fun hs=>q3 ?_
       obtain⟨i',g1,g2,g3,g4⟩:=hs
       exact⟨i',g1,g2,Nat.lt_of_lt_of_le g3 hl,g4⟩
      ·exact h.2.1
     refine⟨by omega,?_,fun f hf i' hi'=>hmono i' (hbef i' ((his i' f hi').chg j hj (by rw[hco]; exact hc) (hff f hf)))⟩
     refine HR.aside2 hone g4.below.block g4.ext g5 hsz (fun b y c' d' m' hb hs ek=>?_) (fun b t h=>hdb b t h) g3.img (fun b h=>⟨Nat.lt_of_lt_of_le (g3.hol b (hX b h)).1 h3,(g3.hol b (hX b h)).2⟩) g3.frz
     obtain⟨hbi,hbg⟩:=qou_ hb
     obtain⟨hq1,hq2⟩:=hrd b hbi
     cases hz:(addFs (finB p ops C) base (p.f j) (G c)).blocks.get b with
     | none=>simp only[hasB,hz] at hq2; exact absurd hq2 Bool.noConfusion
     | some y'=>
      subst ek
      exact hq1 (hcur0.inj b bb y' z c' d' m' d m hz g2 hs g1)
    have main:Inv P n X N base ops p v G C R T0 σ0 w0 D (withJ S j) σ' (c+1) (c+1) (a.put o.dst v') w':=by
     refine⟨htm g4.ext r2,fun k hk1 hk2=>?_,hcur,hst,by rw[Act.put_defers']; exact inv.defs,hpre hc,Nat.le_refl _,fun i oi hoi h6 hrel hwi=>?_,fun f x hf hft hs hx hseen=>?_,hcl,hcn1 hc,hnx⟩
     ·have:k=c+1:=by omega
      subst this; exact hcur.wide hnx
     ·obtain⟨hij,hSi⟩:=hSj i h6
      have h5:i<ops.length:=by
       rcases Nat.lt_or_ge i ops.length with h | h
       ·exact h
       ·rw[List.getElem?_eq_none h] at hoi; cases hoi
      have hp:=hall' i h5
      unfold pairSt at hp
      rw[hoi] at hp
      simp only[Bool.or_eq_true] at hp
      rcases hp with ((hp | hp) | hp) | hp
      ·exact absurd (nB hp) hij
      ·rw[hbef i hp] at hSi; cases hSi
      ·left
       obtain⟨oi',hoi',ri⟩:=hrow i h5
       rcases Nat.lt_or_ge i j with h | h
       ·have:=qtq_ hrow i h5 j hp
        omega
       ·have:=((ri.pair j (by omega)).2 (by rw[hco]; exact hc)).1 hp
        omega
      ·simp only[bA,Bool.or_eq_true,hrel,Bool.not_true,Bool.false_eq_true,false_or] at hp
       obtain⟨hp,_⟩:=hp
       obtain⟨oi',hoi',ri⟩:=hrow i h5
       rcases hp with hlt | ⟨⟨hlt,hrd⟩,hff⟩
       · -- behind it in the text
        have hlt:=qfr_ hlt
        obtain⟨nf1,nf2⟩:=mem_not hrel
        obtain⟨_,late⟩:=(hfacts i oi hoi).mem hwi nf1 nf2 hrel
        rcases late j hlt (by rw[hco]; exact hc) (by rw[eR]; exact List.cons_ne_nil _ _) with hb | ⟨_,l1,l2⟩ | ⟨l1,l2⟩
        ·left
         have:=((ri.pair j hlt).2 (by rw[hco]; exact hc)).1 hb
         omega
        ·by_cases hbf:p.before j i=true
         ·left
          have:=((ri.pair j hlt).2 (by rw[hco]; exact hc)).1 hbf
          omega
         ·right
          have hci:p.c i≤c:=by
           rcases Nat.lt_or_ge (p.n j) (p.c i) with h | h
           ·exact absurd (((ri.pair j hlt).2 (by rw[hco]; exact hc)).2 h) hbf
           ·omega
          refine keepR i oi hoi hSi hrel hwi hci (fun b' hb'=>?_) l2
          obtain⟨q1,q2⟩:=l1 b' hb'
          rw[eR] at q1
          rw[←hcj] at q2
          exact⟨fun e=>q1 (by rw[e]; exact List.mem_cons_self ..),q2⟩
        ·by_cases hbf:p.before j i=true
         ·left
          have:=((ri.pair j hlt).2 (by rw[hco]; exact hc)).1 hbf
          omega
         ·right
          have hci:p.c i≤c:=by
           rcases Nat.lt_or_ge (p.n j) (p.c i) with h | h
           ·exact absurd (((ri.pair j hlt).2 (by rw[hco]; exact hc)).2 h) hbf
           ·omega
          rw[←hcj] at l1
          exact keepM hcur hnx i hci l1 l2
       ·right
        have hlt:=qfr_ hlt
        have hci:p.c i≤c:=by
         have:=n_mono hrow (Nat.le_of_lt hlt) (Nat.le_of_lt hj)
         have:=ri.le
         omega
        refine keepR i oi hoi hSi hrel hwi hci (fun b' hb'=>?_) (fun f hf=>List.all_eq_true.1 hff f hf)
        have hq:=List.all_eq_true.1 hrd b' hb'
        simp only[bA,Bool.not_eq_true'] at hq
        refine⟨fun e=>?_,hq.2⟩
        have hq1:=hq.1
        rw[e,Nat.beq_refl] at hq1
        cases hq1
     ·have hfj:f ≠ j:=fun e=>by rw[e,hnf hfl] at hft; cases hft
      unfold withJ at hs
      rw[if_neg hfj] at hs
      rw[hsameS hins] at hx
      have hof:=List.getElem?_eq_getElem hf
      have hff:isFlt (ops[f]).op=true:=by
       simpa [fltAt,hof] using hft
      have hp:=hall' f hf
      unfold pairSt at hp
      rw[hof] at hp
      simp only[Bool.or_eq_true] at hp
      rcases hp with ((hp | hp) | hp) | hp
      ·exact absurd (nB hp) hfj
      ·exact absurd ⟨j,hj,by rw[hco]; exact hc,by omega,hp⟩ hseen
      ·rw[hbeh f hf hp] at hs; cases hs
      ·simp only[bA,hff,Bool.true_and,Bool.not_eq_true'] at hp
       have hwh:=inv.whole f x hf hft hs hx fun hs'=>hseen (by
        obtain⟨i',g1,g2,g3,g4⟩:=hs'
        exact⟨i',g1,g2,by have:=inv.loc; omega,g4⟩)
       refine hwh.aside2 g4.ext g5 hsz g1 (fun e=>?_) g6
       have hb:=hp.2
       rw[e] at hb
       have:=Nat.beq_refl (base+f)
       rw[show Nat.add base f=base+f from rfl,this] at hb
       cases hb
    refine⟨fun f _=>hF.fn f,?_⟩
    rw[Oper.semAt_eq F.round a.eval o hd]
    rcases r1 with r1 | ⟨r1,rfl⟩
    ·rw[r1]; exact hK _ _ _ _ _ main
    ·rw[r1]; exact hK _ _ _ _ _ main
   obtain⟨Qn,hQn⟩:∃ Qn:Nat→Prop,Qn=fun cf=>(∀ k,k<ops.length→fltAt ops k=true→p.before k j=true∨p.before j k=true∨hasB (addFs (finB p ops C) base (p.f j) (G c)) (base+k)=false)∧∃ f x m,f<ops.length∧S f=true∧(fltAt ops f=true∧C (lstS p.is S f ops.length)=some x)∧¬ Seen p ops f lo∧p.before f j=false∧σ (base+f)=some (cf,0,m):=⟨_,rfl⟩
   have hcurQ:HR ⟨⟨n.n,fun cf=>n.Q cf∨Qn cf⟩,Kept X base p.wd S⟩ σ (addFs (finB p ops C) base (p.f j) (G c)).fresh w:=by
    refine HR.addQ (Q:=n.Q) hcur0 (fun cf hq=>?_) (fun b x cf d m hb hs hq=>?_)
    ·rw[hQn] at hq
     obtain⟨_,f,x,m,_,_,_,_,_,h⟩:=hq
     exact inv.cur.img _ _ _ _ h
    ·rw[hQn] at hq
     obtain⟨hbar,f,y,m',q1,q2,q3,q4,q5,q6⟩:=hq
     obtain⟨cf',m'',w1,_,_,_,w5⟩:=inv.whole f y q1 q3.1 q2 q3.2 q4
     rw[q6] at w1
     injection w1 with w1
     injection w1 with w1 _
     subst w1
     obtain rfl:=w5 _ _ _ hs
     have hfl:fltAt ops f=true:=q3.1
     rcases hbar f q1 hfl with hh | hh | hh
     ·rw[q5] at hh; cases hh
     ·rw[hbeh f q1 hh] at q2; cases q2
     ·have hb':(addFs (finB p ops C) base (p.f j) (G c)).blocks.get (base+f)=some x:=hb
      simp only[hasB,hb'] at hh
      cases hh
   refine Oper.wpIn_mono ?_ (op_ok (n0:=⟨⟨n.n,fun cf=>n.Q cf∨Qn cf⟩,Kept X base p.wd S⟩) (hcall j) hF inv.tmps hcurQ hok.1 h1)
   rintro a' w' ⟨v',σ',rfl,q1,q2Q,q3Q⟩
   have q2:HR ⟨n,Kept X base p.wd S⟩ σ' H1 w':=q2Q.setQ (Q:=n.Q) fun c h=>.inl h
   have q3:Step ⟨n,Kept X base p.wd S⟩ σ w H1.low σ' w':=q3Q.setQ (Q:=n.Q) fun c h=>.inl h
   have hcur:HR ⟨n,Kept X base p.wd (withJ S j)⟩ σ' (G (c+1)) w':=by rw[h2]; exact (q2.back _).setX hX
   have hnx:(G (c+1)).next≤big:=by rw[h2]; exact h3
   have hst:Step ⟨n,X⟩ σ0 w0 (G (c+1)).low σ' w':=by
    rw[h2]
    exact (inv.step.lower (Nat.min_le_left _ _)).trans (q3.setX.lower (Nat.min_le_right _ _)) (Nat.le_refl _)
   rcases h4 with h4 | h4 | h4
   case inr.inr=>
    obtain⟨m1,m2,mild⟩:=h4
    have hbarM:∀ k,k<ops.length→fltAt ops k=true→p.before k j=true∨p.before j k=true∨hasB (addFs (finB p ops C) base (p.f j) (G c)) (base+k)=false:=fun k hk hfk=>by
     have hof:=List.getElem?_eq_getElem hk
     have hff:isFlt (ops[k]).op=true:=by simpa [fltAt,hof] using hfk
     rcases mild k _ hof with h | h | h | h
     ·rw[h,hnf hfl] at hfk; cases hfk
     ·exact .inl h
     ·exact .inr (.inl h)
     ·have:=h.2 hff
      rw[←hcj] at this
      exact .inr (.inr this)
    refine hK _ _ σ' (c+1) (c+1) ⟨htm q3.ext q1,fun k hk1 hk2=>?_,hcur,hst,by rw[Act.put_defers']; exact inv.defs,hpre hc,Nat.le_refl _,fun i oi hoi h6 hrel hwi=>?_,fun f x hf hft hs hx hseen=>?_,hcl,hcn1 hc,hnx⟩
    ·have:k=c+1:=by omega
     subst this; exact hcur.wide hnx
    ·obtain⟨hij,hSi⟩:=hSj i h6
     have h5:i<ops.length:=by
      rcases Nat.lt_or_ge i ops.length with h | h
      ·exact h
      ·rw[List.getElem?_eq_none h] at hoi; cases hoi
     obtain⟨oi',hoi',ri⟩:=hrow i h5
     have hbji:p.before j i=true→c+1≤p.c i:=fun hp=>by
      rcases Nat.lt_or_ge i j with h | h
      ·have:=qtq_ hrow i h5 j hp
       omega
      ·have:=((ri.pair j (by omega)).2 (by rw[hco]; exact hc)).1 hp
       omega
     rcases mild i oi hoi with h | h | h | h
     ·exact absurd h hij
     ·rw[hbef i h] at hSi; cases hSi
     ·exact .inl (hbji h)
     ·rcases h.1 hrel with hlt | ⟨hlt,l1,l2⟩
      ·obtain⟨nf1,nf2⟩:=mem_not hrel
       obtain⟨_,late⟩:=(hfacts i oi hoi).mem hwi nf1 nf2 hrel
       rcases late j hlt (by rw[hco]; exact hc) m1 with hb | ⟨h1,_⟩ | ⟨l1,l2⟩
       ·exact .inl (hbji hb)
       ·rw[m2] at h1; cases h1
       ·by_cases hbf:p.before j i=true
        ·exact .inl (hbji hbf)
        ·have hci:p.c i≤c:=by
          rcases Nat.lt_or_ge (p.n j) (p.c i) with h | h
          ·exact absurd (((ri.pair j hlt).2 (by rw[hco]; exact hc)).2 h) hbf
          ·omega
         rw[←hcj] at l1
         exact .inr (keepM hcur hnx i hci l1 l2)
      ·have hci:p.c i≤c:=by
        have:=n_mono hrow (Nat.le_of_lt hlt) (Nat.le_of_lt hj)
        have:=ri.le
        omega
       rw[←hcj] at l1
       exact .inr (keepM hcur hnx i hci l1 l2)
    ·by_cases e:f=j
     ·rw[e,hnf hfl] at hft; cases hft
     ·unfold withJ at hs
      rw[if_neg e] at hs
      rw[hsameS hins] at hx
      have hlo:¬ Seen p ops f lo:=fun hs'=>hseen (by
       obtain⟨i',g1,g2,g3,g4⟩:=hs'
       exact⟨i',g1,g2,by have:=inv.loc; omega,g4⟩)
      have hnb':p.before f j=false:=by
       cases hb:p.before f j with
       | false=>rfl
       | true=>exact absurd ⟨j,hj,by rw[hco]; exact hc,by omega,hb⟩ hseen
      exact (inv.whole f x hf hft hs hx hlo).safe q3Q fun cf m hcf=>.inr (by
       rw[hQn]
       exact⟨hbarM,f,x,m,hf,hs,⟨hft,hx⟩,hlo,hnb',hcf⟩)
   ·refine hK _ _ σ' (c+1) lo ⟨htm q3.ext q1,fun k hk1 hk2=>?_,hcur,hst,by rw[Act.put_defers']; exact inv.defs,hpre hc,by have:=inv.loc; omega,fun i oi hoi h6 hrel hwi=>?_,fun f x hf hft hs hx hseen=>?_,hcl,hcn1 hc,hnx⟩
    ·by_cases e:k=c+1
     ·subst e; exact hcur.wide hnx
     ·refine HR.calm (inv.heap k hk1 (by omega)) q3 (fun b t h=>?_) (fun b t h=>?_) q2.img (fun b h=>?_) q2.frz
      ·exact Nat.lt_of_lt_of_le (inv.cur.dom b t h) h4
      ·exact Nat.lt_of_lt_of_le (q2.dom b t h) h3
      ·exact⟨Nat.lt_of_lt_of_le (q2.hol b h.less).1 h3,(q2.hol b h.less).2⟩
    ·refine (inv.lov i oi hoi (hSj i h6).2 hrel hwi).imp id fun hone=>⟨Nat.le_succ_of_le hone.1,?_,fun f hf i hi=>hmono i (hone.2.2 f hf i hi)⟩
     refine HR.calm hone.2.1 q3 (fun b t h=>?_) (fun b t h=>?_) q2.img (fun b h=>?_) q2.frz
     ·exact Nat.lt_of_lt_of_le (inv.cur.dom b t h) h4
     ·exact Nat.lt_of_lt_of_le (q2.dom b t h) h3
     ·exact⟨Nat.lt_of_lt_of_le (q2.hol b h.less).1 h3,(q2.hol b h.less).2⟩
    ·by_cases e:f=j
     ·rw[e,hnf hfl] at hft; cases hft
     ·unfold withJ at hs
      rw[if_neg e] at hs
      rw[hsameS hins] at hx
      have hwh:=inv.whole f x hf hft hs hx hseen
      obtain⟨cf,m,g1,_⟩:=id hwh
      exact hwh.calm q3 (Nat.lt_of_lt_of_le (inv.cur.dom _ _ g1) h4)
   ·have h4b:∀ k,k<ops.length→fltAt ops k=true→p.before k j=true∨p.before j k=true∨hasB (addFs (finB p ops C) base (p.f j) (G c)) (base+k)=false:=fun k hk hfk=>by
     have hbar:=h4
     unfold qy4_ at hbar
     simp only[bA] at hbar
     have hh:=List.all_eq_true.1 hbar.2 k (by simpa using hk)
     simp only[Bool.or_eq_true,hfk,Bool.not_true,Bool.false_eq_true,false_or,Bool.not_eq_true'] at hh
     rcases hh with (hh | hh) | hh
     ·exact .inl hh
     ·exact .inr (.inl hh)
     ·exact .inr (.inr hh)
    unfold qy4_ at h4
    simp only[bA] at h4
    obtain⟨⟨h4a,h4c⟩,_⟩:=h4
    refine hK _ _ σ' (c+1) (c+1) ⟨htm q3.ext q1,fun k hk1 hk2=>?_,hcur,hst,by rw[Act.put_defers']; exact inv.defs,hpre hc,Nat.le_refl _,fun j' oj' hoj' h6 hrel _=>?_,fun f x hf hft hs hx hseen=>?_,hcl,hcn1 hc,hnx⟩
    ·have:k=c+1:=by omega
     subst this; exact hcur.wide hnx
    ·have h5:j' < ops.length:=by
      rcases Nat.lt_or_ge j' ops.length with h | h
      ·exact h
      ·rw[List.getElem?_eq_none h] at hoj'; cases hoj'
     have hr:relN P ops j'=true:=by
      simp only[relN,hoj']
      simp[hrel]
     left
     unfold withJ at h6
     by_cases e:j'=j
     ·rw[if_pos e] at h6; cases h6
     ·rw[if_neg e] at h6
      rcases Nat.lt_or_ge j' j with h | h
      ·have hh:=List.all_eq_true.1 h4a j' (by simpa using h)
       simp only[hr,Bool.not_true,Bool.false_or] at hh
       have:=hbef j' hh
       rw[h6] at this; cases this
      ·have hjj:j<j':=by omega
       obtain⟨oj'',hoj'',rj'⟩:=hrow j' h5
       have hb:p.before j j'=true:=by
        have hh:=List.all_eq_true.1 h4c j' (by simpa using h5)
        simp only[hr,Bool.not_true,Bool.or_false,Bool.or_eq_true] at hh
        rcases hh with h | h
        ·exact absurd (qd1_ h) (by omega)
        ·exact h
       have:=((rj'.pair j hjj).2 (by rw[hco]; exact hc)).1 hb
       omega
    ·by_cases e:f=j
     ·rw[e,hnf hfl] at hft; cases hft
     ·unfold withJ at hs
      rw[if_neg e] at hs
      rw[hsameS hins] at hx
      have hlo:¬ Seen p ops f lo:=fun hs'=>hseen (by
       obtain⟨i',g1,g2,g3,g4⟩:=hs'
       exact⟨i',g1,g2,by have:=inv.loc; omega,g4⟩)
      have hnb':p.before f j=false:=by
       cases hb:p.before f j with
       | false=>rfl
       | true=>exact absurd ⟨j,hj,by rw[hco]; exact hc,by omega,hb⟩ hseen
      exact (inv.whole f x hf hft hs hx hlo).safe q3Q fun cf m hcf=>.inr (by
       rw[hQn]
       exact⟨h4b,f,x,m,hf,hs,⟨hft,hx⟩,hlo,hnb',hcf⟩)
 ·rw[if_neg hw]
  have hw':qf2_ ops o (Tseq ops v T0 j)=false:=by rw[←hwant]; simpa using hw
  obtain⟨hv,hnb,hins,hG⟩:=fact.skip hw'
  have hvr:VR σ (v j) undef:=by rw[hv]; exact qo4_ σ
  cases hc:isCh2 o.op with
  | false=>exact hK _ _ σ c lo (stay hc hins (fun _=>hnb) hvr)
  | true=>
   have hcj:=hcn hc
   have hG:=hG hc
   have hl:lo≤p.c j:=by rw[row.full hc,←hcj]; exact inv.loc
   rw[←hcj] at hG
   have hcur:HR ⟨n,Kept X base p.wd (withJ S j)⟩ σ (G (c+1)) w:=by rw[hG]; exact (inv.cur.addFs (hnew hl)).setX hX
   have hnx:(G (c+1)).next≤big:=by rw[hG]; exact inv.nx
   refine hK _ _ σ (c+1) lo ⟨htm (.refl σ) hvr,fun k hk1 hk2=>?_,hcur,by rw[hG]; exact inv.step,by rw[Act.put_defers']; exact inv.defs,hpre hc,by have:=inv.loc; omega,fun j' o' g1 g2 g3 g4=>(hlov j' o' g1 g2 g3 g4).imp id fun h=>⟨Nat.le_succ_of_le h.1,h.2⟩,fun f x hf hft hs hx hseen=>?_,hcl,hcn1 hc,hnx⟩
   ·by_cases e:k=c+1
    ·subst e; exact hcur.wide hnx
    ·exact (inv.heap k hk1 (by omega)).setX hX
   ·by_cases e:f=j
    ·rw[e,hnf (qwp_ hc)] at hft; cases hft
    ·unfold withJ at hs
     rw[if_neg e] at hs
     rw[hsameS hins] at hx
     exact inv.whole f x hf hft hs hx hseen
def left (S:Nat→Bool):Nat→Nat
 | 0=>0
 | m+1=>(if S m=true then 0 else 1)+left S m
theorem qx4_ {S:Nat→Bool}:∀ {m:Nat},left S m=0→∀ i,i<m→S i=true
 | 0,_,i,hi=>by omega
 | m+1,h,i,hi=>by
  unfold left at h
  by_cases hs:S m=true
  ·by_cases e:i=m
   ·subst e; exact hs
   ·exact qx4_ (m:=m) (by omega) i (by omega)
  ·rw[if_neg hs] at h; omega
theorem left_with {S:Nat→Bool}{j:Nat}(hS:S j=false):∀ {m:Nat},left (withJ S j) m+(if j<m then 1 else 0)=left S m
 | 0=>by simp[left]
 | m+1=>by
  have ih:=left_with (m:=m) hS
  unfold left
  by_cases e:m=j
  ·subst e
   have h1:withJ S m m=true:=by simp[withJ]
   rw[if_pos h1,hS]
   rw[if_neg (Nat.lt_irrefl _)] at ih
   simp
   omega
  ·have h1:withJ S j m=S m:=by simp[withJ,e]
   rw[h1]
   by_cases hjm:j<m
   ·rw[if_pos hjm] at ih
    rw[if_pos (show j<m+1 from by omega)]
    omega
   ·rw[if_neg hjm] at ih
    rw[if_neg (show ¬ (j<m+1) from by omega)]
    omega
theorem least_left {S:Nat→Bool}:∀ {m:Nat},left S m ≠ 0→∃ j,j<m∧S j=false∧∀ i,i<j→S i=true
 | 0,h=>by simp[left] at h
 | m+1,h=>by
  by_cases h':left S m=0
  ·have hs:S m=false:=by
    cases hs:S m with
    | false=>rfl
    | true=>unfold left at h; rw[if_pos hs,h'] at h; exact absurd rfl h
   exact⟨m,by omega,hs,qx4_ h'⟩
  ·obtain⟨j,h1,h2,h3⟩:=least_left h'
   exact⟨j,by omega,h2,h3⟩
theorem any_ok {P:Program}{F:Fence}{nn:Nat}{n:Base}{X:Nat→Prop}{N base:Nat}{call:Nat→CallT}(hcall:∀ j,qn1_ P n.n (call j))(hF:WideF F){ops:List Oper}{p:Plan}{v:Nat→Value}{G:Nat→AH}{C:Nat→Option ABlk}{R:Nat→List Nat}{T0:Tr Value}{σ0:Ren}{w0:World}{D:List Deferred}
  (hrow:∀ j,j<ops.length→∃ o,ops[j]?=some o∧Row p ops j o) (h0:p.n 0=0) (hall:qsg_ N ops=true) (hfact:∀ j o,ops[j]?=some o→Fact P call ops p base v G C R T0 j o) (hfin:∀ f∈p.fin,f<ops.length∧¬ Seen p ops f (p.n ops.length)∧fltAt ops f=true) (hXb:∀ b,X b→b<base) (his:∀ j f,findI p.is j=some f→InsRow p ops j f) (hend:∀ j f,findI p.is j=some f→∀ c,c≤p.n ops.length→(G c).low≤base∧(qz1_ p ops f c=true∨hasB (G c) (base+f)=false))
  {Q:Exit→Act→World→Prop} (hQ:∀ a' w',At ⟨n,X⟩ N σ0 w0 (Tseq ops v T0 ops.length) (addFs (finB p ops C) base p.fin (G (p.n ops.length))) D a' w'→Q .normal a' w') :
  ∀ (fuel:Nat) (listed:Array Bool) (σ:Ren) (c lo:Nat) (a:Act) (w:World),listed.size=ops.length→left (fun i=>listed.getD i false) ops.length≤fuel→Inv P n X N base ops p v G C R T0 σ0 w0 D (fun i=>listed.getD i false) σ c lo a w →
   wpAnyIn F nn P .any ⟨ops⟩ Q fuel listed a w:=by
 intro fuel
 have hdone:∀ (listed:Array Bool) (σ:Ren) (c lo:Nat) (a:Act) (w:World),left (fun i=>listed.getD i false) ops.length=0→Inv P n X N base ops p v G C R T0 σ0 w0 D (fun i=>listed.getD i false) σ c lo a w→Q .normal a w:=by
  intro listed σ c lo a w hz inv
  have hS:=qx4_ hz
  have hc:c=p.n ops.length:=by
   rcases Nat.lt_or_ge c (p.n ops.length) with h | h
   ·obtain⟨i,h1,h2,h3⟩:=n_hit hrow h0 (Nat.le_refl _) h
    have:=(inv.pre i h1 h2).1 (hS i h1)
    omega
   ·have:=inv.cn; omega
  subst hc
  refine hQ a w ⟨σ,TR.congr inv.tmps fun t=>?_,inv.defs,(inv.cur.addFs fun f hf x hx=>?_).setX fun b hb=>.inl hb,inv.step⟩
  ·exact (TS_agree (Nat.le_refl _) fun i hi _=>⟨fun _=>hi,fun _=>hS i hi⟩).symm
  ·obtain⟨h1,h2,h3⟩:=hfin f hf
   refine inv.whole f x h1 h3 (hS f h1) (by
    rw[qtp_ (S':=fun _=>true) fun i hi _=>hS i hi]; exact hx) fun hs=>h2 ?_
   obtain⟨i,g1,g2,g3,g4⟩:=hs
   exact⟨i,g1,g2,Nat.lt_of_lt_of_le g3 inv.loc,g4⟩
 have hnone:∀ (listed:Array Bool),listed.size=ops.length→Region.ready .any ⟨ops⟩ listed=[]→left (fun i=>listed.getD i false) ops.length=0:=by
  intro listed hsz hr
  rcases Nat.eq_zero_or_pos (left (fun i=>listed.getD i false) ops.length) with h | h
  ·exact h
  ·obtain⟨j,h1,h2,h3⟩:=least_left (Nat.pos_iff_ne_zero.1 h)
   obtain⟨o,ho,row⟩:=hrow j h1
   have:j∈Region.ready .any ⟨ops⟩ listed:=mem_ready.2 ⟨by
    have hlt:j<listed.size:=by omega
    simpa [hlt] using h2,o,by simpa using ho,fun e he hb=>h3 e.on (row.edge e (by simpa using he) hb)⟩
   rw[hr] at this
   cases this
 induction fuel with
 | zero=>
  intro listed σ c lo a w hsz hl inv
  have hz:left (fun i=>listed.getD i false) ops.length=0:=by omega
  refine⟨?_,hdone listed σ c lo a w hz inv⟩
  cases hr:Region.ready .any ⟨ops⟩ listed with
  | nil=>rfl
  | cons i l=>
   have hi:i∈Region.ready .any ⟨ops⟩ listed:=by rw[hr]; exact .head _
   obtain⟨h1,o,h2,_⟩:=mem_ready.1 hi
   have hlt:i<ops.length:=by
    have:=(Array.getElem?_eq_some_iff.1 h2).1
    simpa using this
   have:=qx4_ hz i hlt
   have hlt2:i<listed.size:=by omega
   simp[hlt2] at h1 this
   rw[h1] at this; cases this
 | succ fuel ih=>
  intro listed σ c lo a w hsz hl inv
  refine⟨fun hr=>hdone listed σ c lo a w (hnone listed hsz hr) inv,fun j hj=>?_⟩
  obtain⟨h1,o,h2,h3⟩:=mem_ready.1 hj
  have hlt:j<ops.length:=by
   have:=(Array.getElem?_eq_some_iff.1 h2).1
   simpa using this
  have hlt2:j<listed.size:=by omega
  have hS:listed.getD j false=false:=by simp[hlt2] at h1 ⊢; exact h1
  have ho:ops[j]?=some o:=by simpa using h2
  have hset:(fun i=>(listed.setIfInBounds j true).getD i false)=withJ (fun i=>listed.getD i false) j:=by
   funext i
   unfold withJ
   by_cases e:i=j
   ·subst e; rw[if_pos rfl]; simp[hlt2]
   ·rw[if_neg e]; exact getD_set_ne false (Ne.symm e)
  have key:=Inv.next_ok (F:=F) (nn:=nn) hcall hF hrow h0 hall hfact inv hXb his hend hlt ho hS (fun e he hb=>h3 e (by simpa using he) hb) (K:=wpAnyIn F nn P .any ⟨ops⟩ Q fuel (listed.setIfInBounds j true)) (Q:=Q)
   (fun a' w' σ' c' lo' inv'=>ih (listed.setIfInBounds j true) σ' c' lo' a' w' (by simp[hsz]) (by
    rw[hset]
    have:=left_with (S:=fun i=>listed.getD i false) (m:=ops.length) hS
    rw[if_pos hlt] at this
    omega) (by rw[hset]; exact inv'))
  unfold wpOpIn
  rw[h2]
  simp only
  rw[qyu_ (ops:=⟨ops⟩) inv.tmps hall o key.1]
  replace key:=key.2
  by_cases hw:qf2_ ops o (TS ops v T0 (fun i=>listed.getD i false) ops.length)=true
  ·rw[if_pos hw] at key
   rw[if_pos hw]; exact key
  ·rw[if_neg hw] at key
   rw[if_neg hw]; exact⟨fun f _=>hF.fn f,key⟩
theorem q0r_ {P:Program}(hm:P.follows .mixedOrders=true){n0:Nat}{QQ X:Nat→Prop}{call:Nat→CallT}(hcall:∀ j,qn1_ P n0 (call j)){F:Fence}(hF:WideF F){nn N id:Nat}{ops:Array Oper}{T T':Tr Value}{H H':AH}{σ:Ren}{w:World}{a:Act}
  (h:qy7_ P call N ops.toList T H=some (T',H')) (hT:TR σ N T a.tmps) (hr:HR ⟨⟨n0,QQ⟩,X⟩ σ H w) {Q:Exit→Act→World→Prop} (hQ:∀ a' w',At ⟨⟨n0,QQ⟩,X⟩ N σ w T' H' a.defers a' w'→Q .normal a' w'):(Code.region id ops true).wpIn F nn P Q a w:=by
 obtain⟨hok,h⟩:=sel_none h
 obtain⟨hbg,h⟩:=sel_none h
 obtain⟨⟨T1,H1,F1⟩,hgo,h⟩:=oS h
 obtain⟨rfl,rfl⟩:=pI (oI h)
 simp only[drawOk,bA] at hok
 obtain⟨⟨⟨⟨hall,hn0⟩,hrows⟩,hfin⟩,hisb⟩:=hok
 have hn0:=nB hn0
 have hrow':∀ j,j<ops.toList.length→rowOk (qsi_ ops.toList) ops.toList j=true:=fun j hj=>List.all_eq_true.1 hrows j (by simpa using hj)
 have hfin':∀ f∈(qsi_ ops.toList).fin,f<ops.toList.length∧¬ Seen (qsi_ ops.toList) ops.toList f ((qsi_ ops.toList).n ops.toList.length)∧fltAt ops.toList f=true:=fun f hf=>by
  have:=List.all_eq_true.1 hfin f hf
  simp only[finOk,bA,Bool.not_eq_true'] at this
  exact⟨qfr_ this.1.1,seenBy_not this.1.2,this.2⟩
 generalize hp:qsi_ ops.toList=p at *
 obtain⟨v,G,C,R,_,_,e2,_,e4,e5,e6,e6b,e7⟩:=drawGo_facts hrow' hisb (T0:=T) ops.toList 0 T _ _ .nil .nil [] (fun _=>undef) (fun _=>⟨H.blocks,Nat.add H.next p.wd,H.low⟩) (fun _=>none) (fun _=>[]) rfl (Nat.zero_le _) rfl rfl (fun c hc=>by
  have:c=0:=by omega
  subst this
  simp[hn0]) (fun f _=>by simp[Tr.get_nil]) (fun i hi=>absurd hi (Nat.not_lt_zero _)) (fun i _=>Tr.get_nil i) (fun i hi=>absurd hi (Nat.not_lt_zero _)) hgo
 have hG0:G 0=⟨H.blocks,Nat.add H.next p.wd,H.low⟩:=e2 0 (Nat.zero_le _)
 refine wpIn_region_any hm ?_
 have e:ops=⟨ops.toList⟩:=rfl
 have hrep:∀ i,(Array.replicate ops.size false).getD i false=false:=fun i=>by
  simp only[Array.getD_eq_getD_getElem?]
  by_cases hi:i<ops.size
  ·simp[hi]
  ·simp[hi]
 refine any_ok (n:=⟨n0,QQ⟩) (ops:=ops.toList) (D:=a.defers) (σ0:=σ) (w0:=w) (X:=X) (base:=H.next) hcall hF (fun j hj=>row_of (hrow' j hj)) hn0 hall (fun j o ho=>e7 j o (Nat.zero_le _) ho) hfin' (fun b hb=>(hr.hol b hb).1) (fun j f hf=>qvs_ hisb hf) e6b (fun a' w' hat=>?_) ops.size _ σ 0 0 a _ (by simp) ?_ ?_
 ·refine hQ a' w' ?_
  show At ⟨⟨n0,QQ⟩,X⟩ N σ w T1 (addFs F1.get H.next p.fin H1) a.defers a' w'
  rw[e4,e5,qwo_ fun f hf=>e6 f (hfin' f hf).1 (hfin' f hf).2.2]; exact hat
 ·have:∀ m,left (fun i=>(Array.replicate ops.size false).getD i false) m≤m:=fun m=>by
   induction m with
   | zero=>exact Nat.le_refl _
   | succ m ih=>unfold left; split<;>omega
  simpa using this ops.toList.length
 ·have hcur:HR ⟨⟨n0,QQ⟩,Kept X H.next p.wd (fun i=>(Array.replicate ops.size false).getD i false)⟩ σ (G 0) w.drew:=by
   rw[hG0]
   have hd:=hr.drew
   refine⟨hd.base,hd.blk,hd.inj,fun b t h=>Nat.lt_of_lt_of_le (hd.dom b t h) (Nat.le_add_right _ _),hd.img,fun b hb=>?_,hd.frz⟩
   rcases hb with hb | ⟨f,h1,h2,h3⟩
   ·exact⟨Nat.lt_of_lt_of_le (hd.hol b hb).1 (Nat.le_add_right _ _),(hd.hol b hb).2⟩
   ·refine⟨by rw[h3]; exact Nat.add_lt_add_left h1 _,?_⟩
    cases hs:σ b with
    | none=>rfl
    | some t=>
     have:=hd.dom b t hs
     omega
  have hnx:(G 0).next≤big:=by rw[hG0]; exact qd1_ hbg
  have hTS:∀ t,tget (TS ops.toList v T (fun i=>(Array.replicate ops.size false).getD i false) ops.toList.length) t=tget T t:=fun t=>by
   have:∀ m,TS ops.toList v T (fun i=>(Array.replicate ops.size false).getD i false) m=T:=fun m=>by
    induction m with
    | zero=>rfl
    | succ m ih=>unfold TS; rw[if_neg (by rw[hrep]; exact Bool.false_ne_true),ih]
   rw[this]
  refine⟨TR.congr hT hTS,fun k h1 h2=>?_,hcur,?_,rfl,fun i hi hc=>?_,Nat.le_refl _,fun _ _ _ _ _ _=>.inl (Nat.zero_le _),fun f x hf _ hs=>?_,fun j o hs=>?_,Nat.zero_le _,hnx⟩
  ·have:k=0:=by omega
   subst this
   exact hcur.wide hnx
  ·exact Step.drew σ w _
  ·rw[hrep]; exact⟨fun h=>(by cases h),fun h=>absurd h (Nat.not_lt_zero _)⟩
  ·have hs:(Array.replicate ops.size false).getD f false=true:=hs
   rw[hrep] at hs; cases hs
  ·have hs:(Array.replicate ops.size false).getD j false=true:=hs
   rw[hrep] at hs; cases hs
theorem qnm_ {P:Program}(hm:P.follows .mixedOrders=true)(n0:Nat):RdOK P n0 (qy8_ P):=by
 intro QQ X call hcall F hF nn N id ops T T' H H' σ w a h hT hr Q hQ
 exact q0r_ hm (fun _=>hcall) hF h hT hr hQ
end Go.Proofs.YthlikofobjhcoaaGreat.Ax
namespace Go.Proofs.YthlikofobjhcoaaGreat.Ax
open Go.RowKit
variable [Tabs]
noncomputable def h0:AH:=⟨.nil,0,0⟩
noncomputable def callP (P:Program):CallT:=callF (qy8_ P) P 100000
def isTrue (r:VRes):Bool:=
 match r with
 | some (.bool true,_)=>true
 | _=>false
theorem hr_start (w:World)(ht:TabsOK w.heap.size w):HR ⟨⟨w.heap.size,fun _=>False⟩,fun _=>False⟩ Ren.nil h0 w:=
 ⟨⟨Nat.le_refl _,fun c h=>h.elim,ht⟩,fun b x h=>(by cases h),fun b₁ b₂ x₁ x₂ c d₁ m₁ d₂ m₂ h=>(by cases h),fun b t h=>(by cases h),fun b c d m h=>(by cases h),fun b h=>h.elim,.nil⟩
end Go.Proofs.YthlikofobjhcoaaGreat.Ax
