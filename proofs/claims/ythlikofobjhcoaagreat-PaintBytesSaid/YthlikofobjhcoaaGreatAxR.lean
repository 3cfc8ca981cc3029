/-
 One operation. Own work, plain lemmas.
-/
import Derived.Test.YthlikofobjhcoaaGreatAx6
import Derived.ChangeKeysEq
import Derived.Laws.StructEq
import Derived.Sort.LoopGhostIn
set_option linter.unusedSimpArgs false
set_option linter.unusedVariables false
set_option linter.unnecessarySimpa false
set_option linter.deprecated false
set_option linter.unusedSectionVars false
/-! One operation. Own work, plain lemmas. -/
namespace Go.Proofs.YthlikofobjhcoaaGreat.Ax
open Go.RowKit
variable [Tabs]
noncomputable def ev (T:Tr Value)(x:Operand):Value:=
 @Operand.rec (fun _=>Value) (fun i=>tget T i) (fun v=>v) (fun g=>.pointer (some ⟨g,0,some 0⟩)) (fun f=>.func (.func f) #[] #[]) x
def opdOk (x:Operand):Bool:=
 match x with
 | .tmp _=>true
 | .const v=>flat v
 | .global _=>true
 | .func _=>true
theorem ev_ok {σ:Ren}{N:Nat}{T:Tr Value}{a:Act}(hT:TR σ N T a.tmps){x:Operand}(hx:opdOk x=true):VR σ (ev T x) (a.eval x):=by
 cases x with
 | tmp i=>exact hT.slot i
 | const v=>exact qua_ hx σ
 | global g=>exact .glob g 0
 | func f=>exact VRs.func (.func f) .nil .nil
noncomputable def evL (T:Tr Value)(l:List Operand):List Value:=l.map (ev T)
def qwl_:List Operand→Bool
 | []=>true
 | x::l=>opdOk x&&qwl_ l
theorem qyr_ {σ:Ren}{N:Nat}{T:Tr Value}{a:Act}(hT:TR σ N T a.tmps):∀ {l:List Operand},qwl_ l=true→VRs σ (evL T l) (l.map a.eval)
 | [],_=>.nil
 | x::l,h=>by
  simp only[qwl_,bA] at h
  exact .cons (ev_ok hT h.1) (qyr_ hT h.2)
noncomputable def evP (T:Tr Value)(l:List (Nat×Operand)):List (Nat×Value):=l.map fun p=>(p.1,ev T p.2)
theorem evP_ok {σ:Ren}{N:Nat}{T:Tr Value}{a:Act}(hT:TR σ N T a.tmps):∀ {l:List (Nat×Operand)},qwl_ (l.map (·.2))=true→PRs σ (evP T l) (l.map fun p=>(p.1,a.eval p.2))
 | [],_=>.nil
 | (i,x)::l,h=>by
  simp only[List.map_cons,qwl_,bA] at h
  exact .cons i (ev_ok hT h.1) (evP_ok hT h.2)
noncomputable def evO (T:Tr Value)(x:Option Operand):Option Value:=x.map (ev T)
def optOk (x:Option Operand):Bool:=
 match x with
 | none=>true
 | some x=>opdOk x
theorem evO_ok {σ:Ren}{N:Nat}{T:Tr Value}{a:Act}(hT:TR σ N T a.tmps){x:Option Operand}(h:optOk x=true):OR σ (evO T x) (x.map a.eval):=by
 cases x with
 | none=>exact .none
 | some x=>exact .some (ev_ok hT h)
abbrev CallT:=Fn→List Value→AH→VRes
theorem q1i_ {P:Program}{w:World}{t:TypeId}{l:List Value}{off:Nat}{v:Value}(h:partB P t l off=some v):(part t ⟨l⟩ off).run P w=.ok v w:=by
 obtain⟨g,hg,h⟩:=oS h
 rcases qa_ h with⟨rfl,h⟩ | ⟨rfl,h⟩
 ·obtain⟨n,hn,h⟩:=oS h
  obtain rfl:=oI h
  have:(⟨l⟩:Array Value).extract off (off+n)=⟨(l.drop off).take n⟩:=by
   apply Array.ext'
   simp
  simp[part,Sem.run_bind,qjn_ hg,qcy_ hn,this]
 ·have h':l[off]?=some v:=h
  have h2:(⟨l⟩:Array Value)[off]?=some v:=by simpa using h'
  simp only[part,Sem.run_bind,qjn_ hg,Result.andThen_ok,Bool.false_eq_true,if_false,h2]
  rfl
noncomputable def eqFs (P:Program)(E:TypeId→Value→Value→Option Bool)(xs ys:List Value)(l:List Field):Option Bool:=
 @List.rec Field (fun _=>Option Bool) (some true) (fun f _ ih=>sel (decide (f.name = "_")) none (oc (partB P f.type xs f.offset) none fun a=>oc (partB P f.type ys f.offset) none fun b=>oc (E f.type a b) none fun r=>oc ih none fun s=>some (r&&s))) l
theorem eqFs_ok {P:Program}{w:World}{d:Nat}{E:TypeId→Value→Value→Option Bool}(hE:∀ t x y b,E t x y=some b→(Op.equalIn d t x y).run P w=.ok b w){xs ys:List Value}:∀ (fs:List Field) (b:Bool),eqFs P E xs ys fs=some b→(Op.eqFields d ⟨xs⟩ ⟨ys⟩ fs).run P w=.ok b w
 | [],b,h=>by obtain rfl:=oI h; rfl
 | f::fs,b,h=>by
  obtain⟨hn,h⟩:=sel_none' (b:=decide (f.name = "_")) h
  obtain⟨a,ha,h⟩:=oS h
  obtain⟨c,hc,h⟩:=oS h
  obtain⟨r,hr,h⟩:=oS h
  obtain⟨s,hs,h⟩:=oS h
  obtain rfl:=oI h
  have ih:=eqFs_ok hE fs s hs
  have hn:f.name ≠ "_" := by simpa using hn
  simp only[Op.eqFields,if_pos hn,Sem.run_bind,q1i_ ha,q1i_ hc,Result.andThen_ok,hE _ _ _ _ hr]
  cases r
  ·simp
  ·simpa using ih
noncomputable def leafEq (P:Program)(t:TypeId)(x y:Value):Option Bool:=
 oc (P.underlying t) none fun u=>match u,x,y with
  | .int _,.int k a,.int k' b=>sel (kindEq k k') (some (a == b)) none
  | .bool,.bool a,.bool b=>some (a == b)
  | .string,.string a,.string b=>some (a.toList == b.toList)
  | _,_,_=>none
theorem leafEq_ok {P:Program}{w:World}{d:Nat}{t:TypeId}{x y:Value}{b:Bool}(h:leafEq P t x y=some b):(Op.equalIn (d+1) t x y).run P w=.ok b w:=by
 obtain⟨u,hu,h⟩:=oS h
 split at h
 ·obtain⟨hk,h⟩:=sel_none h
  obtain rfl:=oI h
  obtain rfl:=q1b_ hk
  exact run_equalIn_int w d t _ _ _ _ hu
 ·obtain rfl:=oI h
  exact run_equalIn_bool' w d t _ _ hu
 ·obtain rfl:=oI h
  exact run_equalIn_string w d t _ _ hu
 ·cases h
noncomputable def eqIs (P:Program)(E:Value→Value→Option Bool)(e:TypeId)(k:Nat)(xs ys:List Value)(l:List Nat):Option Bool:=
 @List.rec Nat (fun _=>Option Bool) (some true) (fun i _ ih=>oc (partB P e xs (Nat.mul i k)) none fun a=>oc (partB P e ys (Nat.mul i k)) none fun b=>oc (E a b) none fun r=>oc ih none fun s=>some (r&&s)) l
theorem eqIs_ok {P:Program}{w:World}{d k:Nat}{e:TypeId}{E:TypeId→Value→Value→Option Bool}(hE:∀ t x y b,E t x y=some b→(Op.equalIn d t x y).run P w=.ok b w){xs ys:List Value}:∀ (l:List Nat) (b:Bool),eqIs P (E e) e k xs ys l=some b→(Op.eqItems d e k ⟨xs⟩ ⟨ys⟩ l).run P w=.ok b w
 | [],b,h=>by obtain rfl:=oI h; rfl
 | i::l,b,h=>by
  obtain⟨a,ha,h⟩:=oS (show oc (partB P e xs (Nat.mul i k)) none (fun a=>oc (partB P e ys (Nat.mul i k)) none fun b=>oc (E e a b) none fun r=>oc (eqIs P (E e) e k xs ys l) none fun s=>some (r&&s))=some b from h)
  obtain⟨c,hc,h⟩:=oS h
  obtain⟨r,hr,h⟩:=oS h
  obtain⟨s,hs,h⟩:=oS h
  obtain rfl:=oI h
  have ih:=eqIs_ok hE l s hs
  have h1:=q1i_ (w:=w) ha
  have h2:=q1i_ (w:=w) hc
  simp only[Op.eqItems,Sem.run_bind]
  rw[show (part e ⟨xs⟩ (i*k)).run P w=.ok a w from h1]
  simp only[Result.andThen_ok]
  rw[show (part e ⟨ys⟩ (i*k)).run P w=.ok c w from h2]
  simp only[Result.andThen_ok,hE _ _ _ _ hr]
  cases r
  ·simp
  ·simpa using ih
def upN:Nat→List Nat→List Nat
 | 0,l=>l
 | n+1,l=>upN n (n::l)
theorem upN_eq:∀ n l,upN n l=List.range n++l
 | 0,l=>rfl
 | n+1,l=>by
  show upN n (n::l)=_
  rw[upN_eq n,List.range_succ,List.append_assoc]; rfl
noncomputable def eqStep (P:Program)(E:TypeId→Value→Value→Option Bool)(t:TypeId)(x y:Value):Option Bool:=
 oc (P.underlying t) none fun u=>match u,x,y with
  | .struct fs,.agg xs,.agg ys=>sel (P.stoodInHeld t) none (eqFs P E xs.toList ys.toList fs.toList)
  | .array n e,.agg xs,.agg ys=>oc (P.info? e) none fun i=>eqIs P (E e) e i.size xs.toList ys.toList (upN n [])
  | _,_,_=>leafEq P t x y
noncomputable def eqIn (P:Program)(d:Nat):TypeId→Value→Value→Option Bool:=@Nat.rec (fun _=>TypeId→Value→Value→Option Bool) (fun _ _ _=>none) (fun _ ih=>eqStep P ih) d
theorem eqIn_ok {P:Program}{w:World}:∀ (d:Nat) (t:TypeId) (x y:Value) (b:Bool),eqIn P d t x y=some b→(Op.equalIn d t x y).run P w=.ok b w
 | 0,t,x,y,b,h=>by cases h
 | d+1,t,x,y,b,h=>by
  have h:eqStep P (eqIn P d) t x y=some b:=h
  obtain⟨u,hu,h⟩:=oS h
  split at h
  ·obtain⟨hp,h⟩:=sel_none' h
   have hf:∀ fs,P.underlying t=some (.struct fs)→P.fieldsOf t=fs:=fun fs h=>by unfold Program.fieldsOf; rw[h]
   rw[run_equalIn_struct w d t _ _ (by rw[hf _ hu]; exact hu) hp,hf _ hu]
   exact eqFs_ok (fun t x y b=>eqIn_ok d t x y b) _ b h
  ·obtain⟨i,hi,h⟩:=oS h
   have hc:∀ e i,P.info? e=some i→P.cellsOf e=i.size:=fun e i hi=>by unfold Program.cellsOf; rw[hi]; rfl
   rw[run_equalIn_array w d _ _ hu hi,hc _ _ hi]
   rw[upN_eq,List.append_nil] at h
   exact eqIs_ok (fun t x y b=>eqIn_ok d t x y b) _ b h
  ·exact leafEq_ok h
noncomputable def strEq (P:Program)(op:BinOp)(t:TypeId)(x y:Value):Option Value:=
 match x,y with
 | .agg xs,.agg ys=>sel (plain (.agg xs)&&plain (.agg ys) && !(P.eqGuardType P.depth t)) (oc (eqIn P 10000 t (.agg xs) (.agg ys)) none fun b=>cmpOp op b) none
 | _,_=>none
theorem strEq_ok {P:Program}{n0:Bs}{σ:Ren}{H:AH}{w:World}(hr:HR n0 σ H w){op:BinOp}{t:TypeId}{ox oy:Operand}{x x' y y' v:Value}(h:strEq P op t x y=some v)(hx:VR σ x x')(hy:VR σ y y') :
  GivesP P n0 σ w H (do eqGuard op t ox oy x' y'; binOp op t x' y') v H:=by
 unfold strEq at h
 split at h
 ·rename_i xs ys
  obtain⟨hb,h⟩:=sel_none h
  obtain⟨b,hb2,h⟩:=oS h
  simp only[bA,Bool.not_eq_true'] at hb
  rw[qng_ hb.1.1 hx,qng_ hb.1.2 hy]
  have hq:=eqIn_ok (w:=w) 10000 t (.agg xs) (.agg ys) b hb2
  cases op with
  | eql=>
   obtain rfl:v=.bool b:=by simpa [cmpOp,eq_comm] using h
   exact GivesP.pure hr (by simp[Sem.run_bind,run_eqGuard_agg w .eql t ox oy xs ys hb.2,run_eql_struct w t xs ys,hq]) (.bool _)
  | neq=>
   obtain rfl:v=.bool (!b):=by simpa [cmpOp,eq_comm] using h
   exact GivesP.pure hr (by simp[Sem.run_bind,run_eqGuard_agg w .neq t ox oy xs ys hb.2,run_neq_struct w t xs ys,hq]) (.bool _)
  | _=>cases h
 ·cases h
noncomputable def opGen0 (P:Program)(op:BinOp)(t:TypeId)(ox oy:Operand)(x y:Value)(H:AH):VRes:=opPure2 P (do eqGuard op t ox oy x y; binOp op t x y) x y H
noncomputable def opGen (P:Program)(op:BinOp)(t:TypeId)(ox oy:Operand)(x y:Value)(H:AH):VRes:=oc (strEq P op t x y) (opGen0 P op t ox oy x y H) fun v=>some (v,H)
noncomputable def opInt (P:Program)(op:BinOp)(t:TypeId)(ox oy:Operand)(k k':IntKind)(a b:Int)(H:AH):VRes:=
 sel (kindEq k k') (oc (intOp op k a b) (opGen P op t ox oy (.int k a) (.int k' b) H) fun v=>some (v,H)) (opGen P op t ox oy (.int k a) (.int k' b) H)
noncomputable def opRest (P:Program)(op:BinOp)(t:TypeId)(ox oy:Operand)(x y:Value)(H:AH):VRes:=
 oc (qyc_ x y) (oc (nilEq x y) (opGen P op t ox oy x y H) fun _=>opNilEq P op t x y H) fun _=>opPtrEq P op t x y H
noncomputable def opBin (P:Program)(op:BinOp)(t:TypeId)(ox oy:Operand)(x y:Value)(H:AH):VRes:=
 match x,y with
 | .int k a,.int k' b=>opInt P op t ox oy k k' a b H
 | x,y=>opRest P op t ox oy x y H
theorem gen_ok {P:Program}{n0:Bs}{σ:Ren}{H H':AH}{w:World}(hr:HR n0 σ H w){op:BinOp}{t:TypeId}{ox oy:Operand}{x x' y y' v:Value}(h:opGen P op t ox oy x y H=some (v,H'))(hx:VR σ x x')(hy:VR σ y y') :
  GivesP P n0 σ w H (do eqGuard op t ox oy x' y'; binOp op t x' y') v H':=by
 cases hs:strEq P op t x y with
 | some u=>
  unfold opGen at h
  rw[hs,oc_some] at h
  obtain⟨rfl,rfl⟩:=pI (oI h)
  exact strEq_ok hr hs hx hy
 | none=>
 unfold opGen at h
 rw[hs,oc_none] at h
 obtain⟨hp,h⟩:=sel_none h
 simp only[bA] at hp
 rw[qng_ hp.1 hx,qng_ hp.2 hy]
 exact qjo_ hr h
theorem rest_ok {P:Program}{n0:Bs}{σ:Ren}{H H':AH}{w:World}(hr:HR n0 σ H w){op:BinOp}{t:TypeId}{ox oy:Operand}{x x' y y' v:Value}(h:opRest P op t ox oy x y H=some (v,H'))(hx:VR σ x x')(hy:VR σ y y') :
  GivesP P n0 σ w H (do eqGuard op t ox oy x' y'; binOp op t x' y') v H':=by
 unfold opRest at h
 cases hp:qyc_ x y with
 | some p=>rw[hp] at h; exact ptrEq_ok hr h hx hy ox oy
 | none=>
  rw[hp,oc_none] at h
  cases hn:nilEq x y with
  | some b=>rw[hn] at h; exact nilEq_ok hr h hx hy ox oy
  | none=>rw[hn] at h; exact gen_ok hr h hx hy
theorem bin_ok {P:Program}{n0:Bs}{σ:Ren}{H H':AH}{w:World}(hr:HR n0 σ H w){op:BinOp}{t:TypeId}{ox oy:Operand}{x x' y y' v:Value}(h:opBin P op t ox oy x y H=some (v,H'))(hx:VR σ x x')(hy:VR σ y y') :
  GivesP P n0 σ w H (do eqGuard op t ox oy x' y'; binOp op t x' y') v H':=by
 unfold opBin at h
 split at h
 ·rename_i k a k' b
  rcases qa_ h with⟨hk,h⟩ | ⟨hk,h⟩
  ·cases hi:intOp op k a b with
   | none=>rw[hi,oc_none] at h; exact gen_ok hr h hx hy
   | some u=>
    rw[hi] at h
    obtain⟨rfl,rfl⟩:=pI (oI h)
    cases hx
    cases hy
    exact int_ok hr hk hi ox oy
  ·exact gen_ok hr h hx hy
 ·exact rest_ok hr h hx hy
theorem flat_conv {x:Value}{a b:VRes}{u:Value×AH}{g:Bool}(h:sel (g && !(flat x)) a (sel (flat x) b none)=some u):(g=true∧a=some u)∨(flat x=true∧b=some u):=by
 rcases qa_ h with⟨h1,h⟩ | ⟨h1,h⟩
 ·simp only[bA] at h1
  exact .inl ⟨h1.1,h⟩
 ·exact .inr (sel_none h)
def fnOk (fn:Fn):Bool:=
 match fn with
 | .func _=>true
 | .method _=>true
 | _=>false
theorem fnOk_vr {fn:Fn}(h:fnOk fn=true)(σ:Ren):FnR σ fn fn:=by
 unfold fnOk at h
 split at h
 ·exact .func _
 ·exact .method _
 ·cases h
noncomputable def opNil (P:Program)(x:Value)(H:AH):VRes:=sel (nilOk x) (some (x,H)) (oc (qvn_ x) none fun q=>oc (methG P q.2.1 q.1) none fun _=>some (x,H))
theorem opNil_eq {P:Program}{x v:Value}{H H':AH}(h:opNil P x H=some (v,H')):v=x∧H'=H∧(nilOk x=true∨∃ q f,qvn_ x=some q∧methG P q.2.1 q.1=some f):=by
 unfold opNil at h
 rcases qa_ h with⟨h1,h⟩ | ⟨h1,h⟩
 ·obtain⟨rfl,rfl⟩:=pI (oI h)
  exact⟨rfl,rfl,.inl h1⟩
 ·obtain⟨q,hq,h⟩:=oS h
  obtain⟨f,hf,h⟩:=oS h
  obtain⟨rfl,rfl⟩:=pI (oI h)
  exact⟨rfl,rfl,.inr ⟨q,f,hq,hf⟩⟩
theorem opNil_any {P:Program}{x v:Value}{H H':AH}(h:opNil P x H=some (v,H'))(H2:AH):opNil P x H2=some (v,H2):=by
 unfold opNil at h ⊢
 rcases qa_ h with⟨h1,h⟩ | ⟨h1,h⟩
 ·obtain⟨rfl,rfl⟩:=pI (oI h)
  rw[h1,sel_true]
 ·rw[h1,sel_false]
  obtain⟨q,hq,h⟩:=oS h
  obtain⟨f,hf,h⟩:=oS h
  obtain⟨rfl,rfl⟩:=pI (oI h)
  rw[hq,oc_some,hf,oc_some]
noncomputable def opConv (P:Program)(s d:TypeId)(x:Value)(H:AH):VRes:=oc (qw7_ P s d x H) (sel (qw6_ P s d && !(flat x)) (oc (zerOf H x) (opBytes P s d x H) fun n=>some (.chan (some n),H)) (sel (flat x) (qwj_ P (convert s d x) H) none)) fun u=>some (u,H)
theorem conv_ok {P:Program}{n0:Bs}{σ:Ren}{H H':AH}{w:World}(hr:HR n0 σ H w){s d:TypeId}{x x' v:Value}(h:opConv P s d x H=some (v,H'))(hx:VR σ x x'):GivesP P n0 σ w H (convert s d x') v H':=by
 unfold opConv at h
 cases hp:qw7_ P s d x H with
 | some u=>
  rw[hp,oc_some] at h
  obtain⟨rfl,rfl⟩:=pI (oI h)
  exact convPtr_ok hr hp hx
 | none=>
 rw[hp,oc_none] at h
 rcases flat_conv h with⟨hby,h⟩ | ⟨hf,h⟩
 ·cases hz:zerOf H x with
  | none=>rw[hz,oc_none] at h; exact bytes_ok hr h hx
  | some n=>
   rw[hz,oc_some] at h
   obtain⟨rfl,rfl⟩:=pI (oI h)
   exact zer_ok hr hby hz hx
 ·rw[qfs_ hf hx]; exact qjo_ hr h
noncomputable def opLenZ (P:Program)(t:TypeId)(x:Value)(H:AH):VRes:=oc (zlen x) (opLen P t x H) fun n=>sel (strB P t) (some (.int .i64 (.ofNat n),H)) none
theorem lenZ_ok {P:Program}{n0:Bs}{σ:Ren}{H H':AH}{w:World}(hr:HR n0 σ H w){t ty:TypeId}{x x' v:Value}(h:opLenZ P t x H=some (v,H'))(hx:VR σ x x'):GivesP P n0 σ w H (Builtin.len_ #[t] ty #[x']) v H':=by
 unfold opLenZ at h
 cases hz:zlen x with
 | none=>rw[hz,oc_none] at h; exact len_ok hr rfl h hx
 | some n=>
  rw[hz,oc_some] at h
  obtain⟨hst,h⟩:=sel_none h
  obtain⟨rfl,rfl⟩:=pI (oI h)
  exact zlen_ok hr hz hst hx
theorem lenZ_any {P:Program}{t:TypeId}{x v:Value}{H H1:AH}(h:opLenZ P t x H=some (v,H1))(H2:AH):opLenZ P t x H2=some (v,H2):=by
 unfold opLenZ at h ⊢
 cases hz:zlen x with
 | none=>
  rw[hz,oc_none] at h
  obtain⟨a,ha,h⟩:=oS h
  obtain⟨r,hr,h⟩:=oS h
  obtain⟨rfl,rfl⟩:=pI (oI h)
  simp only[opLen,ha,hr,oc_some,oc_none]
 | some n=>
  rw[hz,oc_some] at h
  obtain⟨hst,h⟩:=sel_none h
  obtain⟨rfl,rfl⟩:=pI (oI h)
  rw[oc_some,hst,sel_true]
noncomputable def lenMap (x:Value)(H:AH):VRes:=oc (qor_ x) none fun b=>oc (mapEs H b) none fun es=>some (.int .i64 (.ofNat es.1.length),H)
noncomputable def opLenA (P:Program)(t:TypeId)(x:Value)(H:AH):VRes:=oc (mapB P t) (opLenZ P t x H) fun _=>lenMap x H
theorem lenA_ok {P:Program}{n0:Bs}{σ:Ren}{H H':AH}{w:World}(hr:HR n0 σ H w){t ty:TypeId}{x x' v:Value}(h:opLenA P t x H=some (v,H'))(hx:VR σ x x'):GivesP P n0 σ w H (Builtin.len_ #[t] ty #[x']) v H':=by
 unfold opLenA at h
 cases hq:mapB P t with
 | none=>rw[hq,oc_none] at h; exact lenZ_ok hr h hx
 | some q=>
  rw[hq,oc_some] at h
  obtain⟨b,hb,h⟩:=oS h
  obtain⟨es,hes,h⟩:=oS h
  obtain⟨rfl,rfl⟩:=pI (oI h)
  obtain⟨c,rfl,hs⟩:=qni_ hb hx
  obtain⟨ES,h1,⟨⟨L,hL,hLr⟩,_,_⟩,_⟩:=hr.mapEs hs hes
  have hlen:ES.length=es.1.length:=by rw[←hL.length_eq,hLr.len]
  refine GivesP.pure (v':=.int .i64 (.ofNat es.1.length)) hr ?_ (.int _ _)
  unfold Builtin.len_
  have e1:(#[t]:Array TypeId)[0]?=some t:=rfl
  have e2:(#[Value.map (some c)]:Array Value)[0]?=some (.map (some c)):=rfl
  simp only[e1,e2,Sem.run_bind,run_underlying (q0i_ hq),Result.andThen_ok,qg2_ h1,Sem.run_pure]
  simp[goInt,hlen]
theorem lenA_any {P:Program}{t:TypeId}(hm:mapB P t=none){x v:Value}{H H1:AH}(h:opLenA P t x H=some (v,H1))(H2:AH):opLenA P t x H2=some (v,H2):=by
 unfold opLenA at h ⊢
 rw[hm,oc_none] at h ⊢
 exact lenZ_any h H2
noncomputable def qot_ (P:Program)(b:Builtin)(ts:List TypeId)(ty:TypeId)(args:List Value)(H:AH):VRes:=
 match b,ts,args with
 | .len,[t],[x]=>sel (flat x) (qwj_ P (Builtin.len_ #[t] ty #[x]) H) (opLenA P t x H)
 | .cap,[t],[x]=>opCap P t x H
 | .append,[t,u],[s,x]=>qk6_ P t u s x H
 | .copy,[t,_],[x,y]=>opCopy P t x y H
 | .min,_,l=>sel (flatL l) (qwj_ P (Builtin.min_ #[] ty ⟨l⟩) H) none
 | .max,_,l=>sel (flatL l) (qwj_ P (Builtin.max_ #[] ty ⟨l⟩) H) none
 | .clear,[t],[x]=>opClear P t x H
 | .delete,[t,_],[x,k]=>opDelete P t x k H
 | .unsafeSliceData,[_],[x]=>qto_ x H
 | .unsafeString,[t,_],[x,y]=>opUStr P t x y H
 | _,_,_=>none
theorem arr1 {σ:Ren}{x:Value}{args:Array Value}(h:VRs σ [x] args.toList):∃ x',args=#[x']∧VR σ x x':=by
 obtain⟨l⟩:=args
 cases h with
 | cons h1 h2=>
  cases h2
  exact⟨_,rfl,h1⟩
theorem arr2 {σ:Ren}{x y:Value}{args:Array Value}(h:VRs σ [x,y] args.toList):∃ x' y',args=#[x',y']∧VR σ x x'∧VR σ y y':=by
 obtain⟨l⟩:=args
 cases h with
 | cons h1 h2=>
  cases h2 with
  | cons h2 h3=>
   cases h3
   exact⟨_,_,rfl,h1,h2⟩
theorem builtin_ok {P:Program}{n0:Bs}{σ:Ren}{H H':AH}{w:World}(hr:HR n0 σ H w){b:Builtin}{ts:Array TypeId}{ty:TypeId}{l:List Value}{args:Array Value}{v:Value}(h:qot_ P b ts.toList ty l H=some (v,H'))(hl:VRs σ l args.toList) :
  ∃ s,(∀ consts,builtin b ts ty consts args=(do pure (.value (←s))))∧Gives P n0 σ w s v H':=by
 obtain⟨tl⟩:=ts
 unfold qot_ at h
 simp only at h
 split at h
 ·obtain⟨x',rfl,hx⟩:=arr1 hl
  refine⟨_,fun _=>rfl,?_⟩
  rcases qa_ h with⟨hf,h⟩ | ⟨hf,h⟩
  ·rw[qfs_ hf hx]; exact (qjo_ hr h).gives hr
  ·exact (lenA_ok hr h hx).gives hr
 ·obtain⟨x',rfl,hx⟩:=arr1 hl
  exact⟨_,fun _=>rfl,(cap_ok hr rfl h hx).gives hr⟩
 ·obtain⟨x',y',rfl,hx,hy⟩:=arr2 hl
  exact⟨_,fun _=>rfl,append3_ok hr h hx hy⟩
 ·obtain⟨x',y',rfl,hx,hy⟩:=arr2 hl
  exact⟨_,fun _=>rfl,copy_ok hr rfl h hx hy⟩
 ·obtain⟨hf,h⟩:=sel_none h
  refine⟨_,fun _=>rfl,?_⟩
  have:=qr8_ hf hl
  have e:args=⟨_⟩:=Array.toList_inj.1 this
  rw[e]; exact (qjo_ hr h).gives hr
 ·obtain⟨hf,h⟩:=sel_none h
  refine⟨_,fun _=>rfl,?_⟩
  have:=qr8_ hf hl
  have e:args=⟨_⟩:=Array.toList_inj.1 this
  rw[e]; exact (qjo_ hr h).gives hr
 ·obtain⟨x',rfl,hx⟩:=arr1 hl
  exact⟨_,fun _=>rfl,clear_ok hr rfl h hx⟩
 ·obtain⟨x',y',rfl,hx,hy⟩:=arr2 hl
  exact⟨_,fun _=>rfl,delete_ok hr h hx hy⟩
 ·obtain⟨x',rfl,hx⟩:=arr1 hl
  exact⟨_,fun _=>rfl,(qyp_ hr h hx).gives hr⟩
 ·obtain⟨x',y',rfl,hx,hy⟩:=arr2 hl
  exact⟨_,fun _=>rfl,uStr_ok hr h hx hy⟩
 ·cases h
def fnVal (v:Value)(args:List Value):Option (Fn×List Value):=
 match v with
 | .func (.func f) first cap=>some (.func f,first.toList++args++cap.toList)
 | .func (.yield l) first _=>some (.yield l,first.toList++args)
 | _=>none
theorem fnVal_meth {v:Value}{args:List Value}{p:Fn×List Value}(h:fnVal v args=some p):qvn_ v=none:=by
 unfold fnVal at h
 split at h
 ·rfl
 ·rfl
 ·cases h
noncomputable def qse_ (P:Program)(call:CallT)(c:Call)(ty:TypeId)(T:Tr Value)(H:AH):VRes:=
 match c.callee with
 | .value f=>oc (qvn_ (ev T f)) (oc (fnVal (ev T f) (evL T c.args.toList)) none fun p=>oc (extF P p.1) (call p.1 p.2 H) fun x=>opExt P x p.2 H) fun q=>oc (methG P q.2.1 q.1) none fun g=>call (.func g) (q.2.2::evL T c.args.toList) H
 | .builtin b=>qot_ P b c.argTypes.toList ty (evL T c.args.toList) H
 | .invoke r m=>oc (ifaceOf (ev T r)) none fun q=>oc (methG P q.1 m) none fun f=>call (.func f) (q.2::evL T c.args.toList) H
noncomputable def qgd_ (P:Program)(call:CallT)(op:Op)(ty:TypeId)(T:Tr Value)(H:AH):VRes:=
 @Op.rec (fun _=>Program→CallT→TypeId→Tr Value→AH→VRes)
  (fun x P call ty T H=>some (ev T x,H))
  (fun x P call ty T H=>some (ev T x,H))
  (fun c a b P call ty T H=>opPick (ev T c) (ev T a) (ev T b) H)
  (fun e P call ty T H=>opAlloc P e H)
  (fun e x P call ty T H=>opBox e (ev T x) H)
  (fun t ps P call ty T H=>opBuild P t (evP T ps.toList) H)
  (fun t n ps P call ty T H=>sel (Nat.blt n big) (qyh_ P t n (evP T ps.toList) H) none)
  (fun t x k v P call ty T H=>qos_ P t (ev T x) (ev T k) (ev T v) H)
  (fun t a P call ty T H=>opLoad P t (ev T a) H)
  (fun t a x P call ty T H=>opStore P t (ev T a) (ev T x) H)
  (fun _ P call ty T H=>none)
  (fun _ P call ty T H=>none)
  (fun x P call ty T H=>opNil P (ev T x) H)
  (fun op t x y _ P call ty T H=>opBin P op t x y (ev T x) (ev T y) H)
  (fun op _ x P call ty T H=>opUn P op (ev T x) H)
  (fun s d x P call ty T H=>opConv P s d (ev T x) H)
  (fun _ _ P call ty T H=>none)
  (fun t x P call ty T H=>opIface P t (ev T x) H)
  (fun fn first cap P call ty T H=>sel (fnOk fn) (some (.func fn ⟨evL T first.toList⟩ ⟨evL T cap.toList⟩,H)) none)
  (fun t r P call ty T H=>opMakeMap P t (evO T r) H)
  (fun _ _ P call ty T H=>none)
  (fun t l c P call ty T H=>sel (mkU l c) (q0g_ P t (ev T c) H) (qna_ P t (ev T l) (ev T c) H))
  (fun t x lo hi mx P call ty T H=>qki_ P t (ev T x) (evO T lo) (evO T hi) (evO T mx) H)
  (fun t x f P call ty T H=>qhe_ P t (ev T x) f H)
  (fun t x f P call ty T H=>opField P t (ev T x) f H)
  (fun t x i P call ty T H=>qdt_ P t (ev T x) (ev T i) H)
  (fun t x i P call ty T H=>opIndex P t (ev T x) (ev T i) H)
  (fun t x k ok P call ty T H=>qx1_ P t (ev T x) (ev T k) ok H)
  (fun t x k v P call ty T H=>qos_ P t (ev T x) (ev T k) (ev T v) H)
  (fun _ _ _ P call ty T H=>none)
  (fun _ _ _ _ P call ty T H=>none)
  (fun t x P call ty T H=>opRange P t (ev T x) H)
  (fun _ _ P call ty T H=>none)
  (fun _ P call ty T H=>none)
  (fun x _ t ok P call ty T H=>q1h_ P (ev T x) t ok H)
  (fun x i P call ty T H=>opExtract (ev T x) i H)
  (fun c P call ty T H=>qse_ P call c ty T H)
  (fun _ P call ty T H=>none)
  (fun _ P call ty T H=>none)
  (fun _ P call ty T H=>none)
  (fun _ _ P call ty T H=>none)
  (fun _ _ _ P call ty T H=>none)
  (fun _ _ P call ty T H=>none)
  op P call ty T H
def RetOK (n0:Bs)(σ:Ren)(w:World)(v:Value)(H':AH)(e:Ending)(w':World):Prop:=∃ v' σ',e=.returned v'∧VR σ' v v'∧HR n0 σ' H' w'∧Step n0 σ w H'.low σ' w'
def CallGo (P:Program)(n0:Bs)(σ:Ren)(w:World)(v:Value)(H':AH)(args':Array Value):Fn→Prop
 | .func f=>(∃ fd,P.funcs[f]?=some fd∧(fd.name == "runtime.NumGoroutine")=false∧fd.body.isNone=false)∧∀ n,CallsIn Fence.wide n P f args' w (RetOK n0 σ w v H')
 | .yield l=>∃ g ts as bd,(Instr.yield l args').run P w=.ok (.round l g ts as bd) w∧∀ n,RoundIn Fence.wide n P l g ts as bd w (RetOK n0 σ w v H')
 | _=>False
def qn1_ (P:Program)(n:Nat)(call:CallT):Prop:=
 ∀ (Q X:Nat→Prop) fn args H v H',call fn args H=some (v,H')→∀ σ w fn' args',FnR σ fn fn'→VRs σ args args'.toList→HR ⟨⟨n,Q⟩,X⟩ σ H w→CallGo P ⟨⟨n,Q⟩,X⟩ σ w v H' args' fn'
def WideF (F:Fence):Prop:=∃ ro,F={ Fence.wide with round:=ro }
theorem WideF.fn {F:Fence}(h:WideF F)(f:FuncId):F.fn f:=by obtain⟨ro,rfl⟩:=h; trivial
theorem WideF.depth {F:Fence}(h:WideF F){p:Prop}:F.depth.isSome=true→p:=by obtain⟨ro,rfl⟩:=h; intro h; cases h
theorem WideF.calls {F:Fence}(h:WideF F){n:Nat}{P:Program}{f:FuncId}{args:Array Value}{w:World}{R:Ending→World→Prop}(hc:CallsIn Fence.wide n P f args w R):CallsIn F n P f args w R:=by obtain⟨ro,rfl⟩:=h; exact hc
theorem WideF.rounds {F:Fence}(h:WideF F){n:Nat}{P:Program}{l:Nat}{g:FuncId}{ts:Array Value}{as bd:Code}{w:World}{R:Ending→World→Prop}(hc:RoundIn Fence.wide n P l g ts as bd w R):RoundIn F n P l g ts as bd w R:=by obtain⟨ro,rfl⟩:=h; exact hc
def After (n0:Bs)(σ:Ren)(w:World)(dst:Option Tmp)(a:Act)(v:Value)(H':AH)(a':Act)(w':World):Prop:=
 ∃ v' σ',a'=a.put dst v'∧VR σ' v v'∧HR n0 σ' H' w'∧Step n0 σ w H'.low σ' w'
theorem qbo_ {P:Program}{F:Fence}{n:Nat}{n0:Bs}{σ:Ren}{w:World}{o:Oper}{a:Act}{v:Value}{H':AH}{Q:Exit→Act→World→Prop}(hF:WideF F)(hd:∀ c,o.op ≠ .defer c){s:Sem Value}
  (he:execOp a.eval o=(do pure (.value (←s)))) (hg:Gives P n0 σ w s v H'):o.wpIn F n P a w (After n0 σ w o.dst a v H') Q:=by
 obtain⟨v',σ',w',r1,r2,r3,r4⟩:=hg
 refine⟨fun f _=>hF.fn f,?_⟩
 rw[Oper.semAt_eq F.round a.eval o hd,he]
 have:(do pure (Next.value (←s)):Sem Next).run P w=.ok (.value v') w':=by simp[Sem.run_bind,r1]
 rw[this]
 exact⟨v',σ',rfl,r2,r3,r4⟩
theorem qys_ {P:Program}{F:Fence}{n:Nat}{n0:Bs}{σ:Ren}{w:World}{o:Oper}{a:Act}{H':AH}{Q:Exit→Act→World→Prop}(hF:WideF F)(hd:∀ c,o.op ≠ .defer c){s:Sem Unit}
  (he:execOp a.eval o=(do s; pure .skip)) (hg:GivesU P n0 σ w s H'):o.wpIn F n P a w (After n0 σ w o.dst a undef H') Q:=by
 obtain⟨σ',w',r1,r3,r4⟩:=hg
 refine⟨fun f _=>hF.fn f,?_⟩
 rw[Oper.semAt_eq F.round a.eval o hd,he]
 have:(do s; pure Next.skip:Sem Next).run P w=.ok .skip w':=by simp[Sem.run_bind,r1]
 rw[this]
 exact⟨undef,σ',rfl,qo4_ _,r3,r4⟩
theorem qsf_ {P:Program}{F:Fence}{n:Nat}{n0:Bs}{σ:Ren}{H:AH}{w:World}(hr:HR n0 σ H w){o:Oper}{a:Act}{v v':Value}{Q:Exit→Act→World→Prop}(hF:WideF F)(hd:∀ c,o.op ≠ .defer c)
  (he:(execOp a.eval o).run P w=.ok (.value v') w) (hv:VR σ v v'):o.wpIn F n P a w (After n0 σ w o.dst a v H) Q:=by
 refine⟨fun f _=>hF.fn f,?_⟩
 rw[Oper.semAt_eq F.round a.eval o hd,he]
 exact⟨v',σ,rfl,hv,hr,Step.refl _ _ _ _⟩
end Go.Proofs.YthlikofobjhcoaaGreat.Ax
namespace Go.Proofs.YthlikofobjhcoaaGreat.Ax
open Go.RowKit
variable [Tabs]
theorem mkU_eq {l c:Operand}(h:mkU l c=true):∃ k,l=.const (.int k 0):=by
 unfold mkU at h
 split at h
 ·exact⟨_,rfl⟩
 ·cases h
def qu4_ (c:Call):Bool:=
 match c.callee with
 | .value f=>opdOk f&&qwl_ c.args.toList
 | .builtin _=>qwl_ c.args.toList
 | .invoke r _=>opdOk r&&qwl_ c.args.toList
def opOk (op:Op):Bool:=
 match op with
 | .move x=>opdOk x
 | .assign x=>opdOk x
 | .pick c a b=>opdOk c&&opdOk a&&opdOk b
 | .alloc _=>true
 | .box _ x=>opdOk x
 | .build _ ps=>qwl_ (ps.toList.map (·.2))
 | .buildSlice _ _ ps=>qwl_ (ps.toList.map (·.2))
 | .load _ a=>opdOk a
 | .store _ a x=>opdOk a&&opdOk x
 | .nilCheck x=>opdOk x
 | .binOp _ _ x y _=>opdOk x&&opdOk y
 | .unOp _ _ x=>opdOk x
 | .convert _ _ x=>opdOk x
 | .makeInterface _ x=>opdOk x
 | .makeFunc _ first cap=>qwl_ first.toList&&qwl_ cap.toList
 | .makeSlice _ l c=>opdOk l&&opdOk c
 | .slice _ x lo hi mx=>opdOk x&&optOk lo&&optOk hi&&optOk mx
 | .fieldAddr _ x _=>opdOk x
 | .field _ x _=>opdOk x
 | .indexAddr _ x i=>opdOk x&&opdOk i
 | .index _ x i=>opdOk x&&opdOk i
 | .extract x _=>opdOk x
 | .typeAssert x _ _ _=>opdOk x
 | .call c=>qu4_ c
 | .insert _ x k v=>opdOk x&&opdOk k&&opdOk v
 | .mapUpdate _ x k v=>opdOk x&&opdOk k&&opdOk v
 | .lookup _ x k _=>opdOk x&&opdOk k
 | .makeMap _ r=>optOk r
 | .range _ x=>opdOk x
 | .entry x=>opdOk x
 | .next x _=>opdOk x
 | _=>false
theorem fnVal_vr {σ:Ren}{f f':Value}{args args':List Value}{p:Fn×List Value}(h:fnVal f args=some p)(hf:VR σ f f')(ha:VRs σ args args') :
  ∃ (fn:Fn) (first cap:Array Value),f'=.func fn first cap∧FnR σ p.1 fn∧((∃ g,fn=.func g∧VRs σ p.2 (first.toList++args' ++ cap.toList))∨(∃ l,fn=.yield l∧VRs σ p.2 (first.toList++args'))):=by
 unfold fnVal at h
 split at h
 ·rename_i g first cap
  obtain rfl:=oI h
  cases hf with
  | func hfn hx hxs hy hys=>
   cases hfn
   exact⟨_,_,_,rfl,.func _,.inl ⟨_,rfl,((VRs.arr hx hxs).append ha).append (VRs.arr hy hys)⟩⟩
 ·rename_i l first cap
  obtain rfl:=oI h
  cases hf with
  | func hfn hx hxs hy hys=>
   cases hfn with
   | yield hl=>exact⟨_,_,_,rfl,.yield hl,.inr ⟨_,rfl,(VRs.arr hx hxs).append ha⟩⟩
 ·cases h
theorem call_ok {P:Program}{F:Fence}{n N:Nat}{n0:Bs}{σ:Ren}{H H':AH}{w:World}{call:CallT}(hcall:qn1_ P n0.n.n call)(hF:WideF F){o:Oper}{c:Call}(ho:o.op=.call c){a:Act}{T:Tr Value}(hT:TR σ N T a.tmps)(hr:HR n0 σ H w)
  (hop:qu4_ c=true) {v:Value} (h:qse_ P call c o.type T H=some (v,H')) {Q:Exit→Act→World→Prop}:o.wpIn F n P a w (After n0 σ w o.dst a v H') Q:=by
 have hd:∀ c',o.op ≠ .defer c':=fun c' e=>by rw[ho] at e; cases e
 unfold qse_ at h
 unfold qu4_ at hop
 cases hc:c.callee with
 | invoke r m=>
  rw[hc] at h hop
  simp only[bA] at hop
  simp only at h
  obtain⟨q,hq,h⟩:=oS h
  obtain⟨f,hf,h⟩:=oS h
  have hl:=qyr_ (a:=a) hT hop.2
  have hx:=ev_ok (a:=a) hT hop.1
  obtain⟨t,x⟩:=q
  have hq2:ev T r=.iface t x:=by
   unfold ifaceOf at hq
   split at hq
   ·rename_i e
    obtain⟨rfl,rfl⟩:=pI (oI hq)
    exact e
   ·cases hq
  rw[hq2] at hx
  generalize hrv:a.eval r=rv at hx
  cases hx with
  | @iface _ _ x' hxx=>
   have hargs':VRs σ (x::evL T c.args.toList) (#[x']++c.args.map a.eval).toList:=by
    simpa using VRs.cons hxx hl
   obtain⟨⟨fd,hfd,hnm,hbd⟩,hgo⟩:=hcall n0.n.Q n0.X _ _ H v H' h σ w _ _ (.func f) hargs' hr
   have hnm':¬ fd.name = "runtime.NumGoroutine" := by simpa using hnm
   have hbd':¬ fd.body=none:=fun e=>by rw[e] at hbd; cases hbd
   refine⟨fun f _=>hF.fn f,?_⟩
   rw[Oper.semAt_eq F.round a.eval o hd]
   have he:(execOp a.eval o).run P w=.ok (.enter f (#[x']++c.args.map a.eval)) w:=by
    have hm:=method_run hf x' w
    have e1:((#[Value.iface t x']++c.args.map a.eval:Array Value)[0]?)=some (.iface t x'):=by rw[Array.getElem?_append_left (by simp)]; rfl
    have e2:(#[Value.iface t x']++c.args.map a.eval:Array Value).extract 1 (#[Value.iface t x']++c.args.map a.eval:Array Value).size=c.args.map a.eval:=by
     apply Array.ext'
     simp
     exact List.take_of_length_le (by simp)
    simp only[execOp,ho,resolve,hc,hrv,invoke,Sem.run_bind,Sem.run_pure,Result.andThen_ok,e1,e2,callMethod,program,Sem.run,hm]
    simp[callFunc,program,Sem.run,Sem.run_bind,hfd,hnm',hbd']
   rw[he]
   refine⟨hF.depth,CallsIn.mono (hF.calls (hgo (n-1))) ?_⟩
   rintro e w' ⟨v',σ',rfl,r1,r2,r3⟩
   exact⟨v',σ',rfl,r1,r2,r3⟩
 | builtin b=>
  rw[hc] at h hop
  simp only at h hop
  have hl:=qyr_ (a:=a) hT hop
  have hl':VRs σ (evL T c.args.toList) (c.args.map a.eval).toList:=by simpa using hl
  obtain⟨s,e1,e2⟩:=builtin_ok hr h hl'
  refine qbo_ hF hd ?_ e2
  simp[execOp,ho,resolve,hc,invoke,e1]
 | value f=>
  rw[hc] at h hop
  simp only[bA] at hop
  simp only at h
  have hl:=qyr_ (a:=a) hT hop.2
  cases hmv:qvn_ (ev T f) with
  | some q=>
   rw[hmv,oc_some] at h
   obtain⟨g,hg,h⟩:=oS h
   obtain⟨u',hfv,hu⟩:=methVal_vr hmv (ev_ok (a:=a) hT hop.1)
   have hargs':VRs σ (q.2.2::evL T c.args.toList) (#[u']++c.args.map a.eval).toList:=by
    simpa using VRs.cons hu hl
   obtain⟨⟨fd,hfd,hnm,hbd⟩,hgo⟩:=hcall n0.n.Q n0.X _ _ H v H' h σ w _ _ (.func g) hargs' hr
   have hnm':¬ fd.name = "runtime.NumGoroutine" := by simpa using hnm
   have hbd':¬ fd.body=none:=fun e=>by rw[e] at hbd; cases hbd
   refine⟨fun f _=>hF.fn f,?_⟩
   rw[Oper.semAt_eq F.round a.eval o hd]
   have he:(execOp a.eval o).run P w=.ok (.enter g (#[u']++c.args.map a.eval)) w:=by
    have hm:=method_run hg u' w
    have e1:((#[Value.iface q.2.1 u']++c.args.map a.eval:Array Value)[0]?)=some (.iface q.2.1 u'):=by rw[Array.getElem?_append_left (by simp)]; rfl
    have e2:(#[Value.iface q.2.1 u']++c.args.map a.eval:Array Value).extract 1 (#[Value.iface q.2.1 u']++c.args.map a.eval:Array Value).size=c.args.map a.eval:=by
     apply Array.ext'
     simp
     exact List.take_of_length_le (by simp)
    simp only[execOp,ho,resolve,hc,hfv,Deferred.ofValue,invoke,Sem.run_bind,Sem.run_pure,Result.andThen_ok,e1,e2,callMethod,program,Sem.run,hm]
    simp[callFunc,program,Sem.run,Sem.run_bind,hfd,hnm',hbd']
   rw[he]
   refine⟨hF.depth,CallsIn.mono (hF.calls (hgo (n-1))) ?_⟩
   rintro e w' ⟨v',σ',rfl,r1,r2,r3⟩
   exact⟨v',σ',rfl,r1,r2,r3⟩
  | none=>
  rw[hmv,oc_none] at h
  obtain⟨p,hp,h⟩:=oS h
  obtain⟨fn,first,cap,hfv,hfn,hcase⟩:=fnVal_vr hp (ev_ok (a:=a) hT hop.1) hl
  cases hex:extF P p.1 with
  | some k=>
   rw[hex,oc_some] at h
   have hfn0:=hfn
   rcases hcase with⟨g,rfl,hargs⟩ | ⟨l,rfl,hargs⟩
   ·have hargs':VRs σ p.2 (first++c.args.map a.eval++cap).toList:=by simpa using hargs
    obtain⟨g',hg',v',σ',w',r1,r2,r3,r4⟩:=ext_ok hr hex h hargs'
    rw[hg'] at hfn0
    obtain rfl:g'=g:=by cases hfn0; rfl
    refine⟨fun f _=>hF.fn f,?_⟩
    rw[Oper.semAt_eq F.round a.eval o hd]
    have he:(execOp a.eval o).run P w=.ok (.value v') w':=by
     have:first++c.args.map a.eval++cap=first++(c.args.map a.eval++cap):=by simp
     rw[this] at r1
     simp[execOp,ho,resolve,hc,hfv,Deferred.ofValue,invoke,r1]
    rw[he]
    exact⟨v',σ',rfl,r2,r3,r4⟩
   ·have hne:∃ l',p.1=.yield l':=by
     generalize p.1=q at hfn0
     cases hfn0
     exact⟨_,rfl⟩
    obtain⟨l',hl'⟩:=hne
    rw[hl'] at hex; cases hex
  | none=>
  rw[hex,oc_none] at h
  rcases hcase with⟨g,rfl,hargs⟩ | ⟨l,rfl,hargs⟩
  ·have hargs':VRs σ p.2 (first++c.args.map a.eval++cap).toList:=by simpa using hargs
   obtain⟨⟨fd,hfd,hnm,hbd⟩,hgo⟩:=hcall n0.n.Q n0.X p.1 p.2 H v H' h σ w _ _ hfn hargs' hr
   have hnm':¬ fd.name = "runtime.NumGoroutine" := by simpa using hnm
   have hbd':¬ fd.body=none:=fun e=>by rw[e] at hbd; cases hbd
   refine⟨fun f _=>hF.fn f,?_⟩
   rw[Oper.semAt_eq F.round a.eval o hd]
   have he:(execOp a.eval o).run P w=.ok (.enter g (first++c.args.map a.eval++cap)) w:=by
    simp[execOp,ho,resolve,hc,hfv,Deferred.ofValue,invoke,callFunc,program,Sem.run,Sem.run_bind,hfd,hnm',hbd']
   rw[he]
   refine⟨hF.depth,CallsIn.mono (hF.calls (hgo (n-1))) ?_⟩
   rintro e w' ⟨v',σ',rfl,r1,r2,r3⟩
   exact⟨v',σ',rfl,r1,r2,r3⟩
  ·have hargs':VRs σ p.2 (first++c.args.map a.eval).toList:=by simpa using hargs
   obtain⟨g,ts,as,bd,hy,hgo⟩:=hcall n0.n.Q n0.X p.1 p.2 H v H' h σ w _ _ hfn hargs' hr
   refine⟨fun f _=>hF.fn f,?_⟩
   rw[Oper.semAt_eq F.round a.eval o hd]
   have he:(execOp a.eval o).run P w=.ok (.round l g ts as bd) w:=by
    simp[execOp,ho,resolve,hc,hfv,Deferred.ofValue,invoke,Sem.run_bind]
    exact hy
   rw[he]
   refine⟨hF.depth,RoundIn.mono (hF.rounds (hgo (n-1))) ?_⟩
   rintro e w' ⟨v',σ',rfl,r1,r2,r3⟩
   exact⟨v',σ',rfl,r1,r2,r3⟩
theorem nil_run {P:Program}{σ:Ren}{w:World}{o:Oper}{x:Operand}{ρ:Operand→Value}{u:Value}(hn:nilOk u=true)(hv:VR σ u (ρ x))(ho:o.op=.nilCheck x):(execOp ρ o).run P w=.ok (.value (ρ x)) w:=by
 generalize hq:ρ x=q at hv
 unfold nilOk at hn
 split at hn
 ·cases hv<;>simp[execOp,ho,hq]
 ·cases hv with
  | func hf _ _ _ _=>cases hf; simp[execOp,ho,hq]
 ·cases hv with
  | func hf _ _ _ _=>cases hf; simp[execOp,ho,hq]
 ·cases hn
theorem nil_run2 {P:Program}{σ:Ren}{w:World}{o:Oper}{x:Operand}{ρ:Operand→Value}{u:Value}(hn:nilOk u=true∨∃ q f,qvn_ u=some q∧methG P q.2.1 q.1=some f)(hv:VR σ u (ρ x))(ho:o.op=.nilCheck x):(execOp ρ o).run P w=.ok (.value (ρ x)) w:=by
 rcases hn with hn | ⟨q,f,hq,hf⟩
 ·exact nil_run hn hv ho
 ·obtain⟨u',hx,_⟩:=methVal_vr hq hv
  have ha:=nilAhead_run hf u' w
  have e1:(#[Value.iface q.2.1 u']:Array Value)[0]?=some (.iface q.2.1 u'):=rfl
  simp only[execOp,ho,hx,e1,Sem.run_bind,program,Sem.run,Result.andThen_ok,ha,Sem.run_pure]
  rfl
theorem op_ok {P:Program}{F:Fence}{n N:Nat}{n0:Bs}{σ:Ren}{H H':AH}{w:World}{call:CallT}(hcall:qn1_ P n0.n.n call)(hF:WideF F){o:Oper}{a:Act}{T:Tr Value}(hT:TR σ N T a.tmps)(hr:HR n0 σ H w)
  (hop:opOk o.op=true) {v:Value} (h:qgd_ P call o.op o.type T H=some (v,H')) {Q:Exit→Act→World→Prop}:o.wpIn F n P a w (After n0 σ w o.dst a v H') Q:=by
 obtain⟨dst,op,ty,pos,after,guard⟩:=o
 cases op with
 | move x=>
  obtain⟨rfl,rfl⟩:=pI (oI h)
  exact qsf_ hr hF (fun c=>by simp) (by simp[execOp]) (ev_ok (a:=a) hT hop)
 | assign x=>
  obtain⟨rfl,rfl⟩:=pI (oI h)
  exact qsf_ hr hF (fun c=>by simp) (by simp[execOp]) (ev_ok (a:=a) hT hop)
 | pick c x y=>
  simp only[opOk,bA] at hop
  obtain⟨g,hg,h⟩:=oS h
  obtain⟨rfl,rfl⟩:=pI (oI h)
  have hc:=ev_ok (a:=a) hT hop.1.1
  have hx:=ev_ok (a:=a) hT hop.1.2
  have hy:=ev_ok (a:=a) hT hop.2
  rw[asB_eq hg] at hc
  generalize hcv:a.eval c=cv at hc
  cases hc
  refine qsf_ (v':=if g then a.eval x else a.eval y) hr hF (fun c=>by simp) ?_ ?_
  ·simp[execOp,hcv,asBool]
  ·cases g
   ·exact hy
   ·exact hx
 | alloc e=>exact qbo_ hF (fun c=>by simp) rfl (alloc_ok hr h)
 | box e x=>exact qbo_ hF (fun c=>by simp) rfl (box_ok hr h (ev_ok (a:=a) hT hop))
 | build t ps=>exact qbo_ hF (fun c=>by simp) rfl (GivesP.gives hr <| build_ok hr h (by simpa using evP_ok (a:=a) hT hop))
 | buildSlice t k ps=>
  obtain⟨hk,h⟩:=sel_none h
  exact qbo_ hF (fun c=>by simp) rfl (buildSlice_ok hr h (by simpa using evP_ok (a:=a) hT hop) (qfr_ hk))
 | load t x=>exact qbo_ hF (fun c=>by simp) rfl (GivesP.gives hr <| load_ok hr h (ev_ok (a:=a) hT hop))
 | insert t x y z=>
  simp only[opOk,bA] at hop
  obtain⟨rfl,hg⟩:=update2_ok (P:=P) hr h (ev_ok (a:=a) hT hop.1.1) (ev_ok (a:=a) hT hop.1.2) (ev_ok (a:=a) hT hop.2)
  exact qys_ hF (fun c=>by simp) rfl hg
 | mapUpdate t x y z=>
  simp only[opOk,bA] at hop
  obtain⟨rfl,hg⟩:=update2_ok (P:=P) hr h (ev_ok (a:=a) hT hop.1.1) (ev_ok (a:=a) hT hop.1.2) (ev_ok (a:=a) hT hop.2)
  exact qys_ hF (fun c=>by simp) rfl hg
 | lookup t x y ok=>
  simp only[opOk,bA] at hop
  exact qbo_ hF (fun c=>by simp) rfl (GivesP.gives hr <| lookup2_ok hr h (ev_ok (a:=a) hT hop.1) (ev_ok (a:=a) hT hop.2))
 | range t x=>exact qbo_ hF (fun c=>by simp) rfl (range_ok hr h (ev_ok (a:=a) hT hop))
 | entry x=>cases h
 | makeMap t r=>exact qbo_ hF (fun c=>by simp) rfl (makeMap_ok hr (fun e=>by cases r<;>first | rfl | cases e) h)
 | store t x y=>
  simp only[opOk,bA] at hop
  obtain⟨rfl,hg⟩:=store_ok (P:=P) hr h (ev_ok (a:=a) hT hop.1) (ev_ok (a:=a) hT hop.2)
  exact qys_ hF (fun c=>by simp) rfl hg
 | nilCheck x=>
  obtain⟨rfl,rfl,hn⟩:=opNil_eq h
  have hv:=ev_ok (a:=a) hT hop
  exact qsf_ hr hF (fun c=>by simp) (nil_run2 hn hv rfl) hv
 | binOp op t x y yt=>
  simp only[opOk,bA] at hop
  exact qbo_ hF (fun c=>by simp) rfl (GivesP.gives hr <| bin_ok hr h (ev_ok (a:=a) hT hop.1) (ev_ok (a:=a) hT hop.2))
 | unOp op t x=>exact qbo_ hF (fun c=>by simp) rfl (GivesP.gives hr <| un_ok hr h (ev_ok (a:=a) hT hop))
 | convert s d x=>exact qbo_ hF (fun c=>by simp) rfl (GivesP.gives hr <| conv_ok hr h (ev_ok (a:=a) hT hop))
 | makeFunc fn first cap=>
  simp only[opOk,bA] at hop
  obtain⟨hf,h⟩:=sel_none h
  obtain⟨rfl,rfl⟩:=pI (oI h)
  refine qsf_ (v':=.func fn (first.map a.eval) (cap.map a.eval)) hr hF (fun c=>by simp) (by simp[execOp,Instr.makeFunc]) ?_
  exact VRs.func (fnOk_vr hf σ) (by simpa using qyr_ (a:=a) hT hop.1) (by simpa using qyr_ (a:=a) hT hop.2)
 | makeSlice t x y=>
  simp only[opOk,bA] at hop
  rcases qa_ h with⟨hm,hu⟩ | ⟨_,h⟩
  ·obtain⟨k,rfl⟩:=mkU_eq hm
   exact qbo_ hF (fun c=>by simp) rfl (makeU_ok (k:=k) hr hu (ev_ok (a:=a) hT hop.1) (ev_ok (a:=a) hT hop.2))
  ·exact qbo_ hF (fun c=>by simp) rfl (makeSlice_ok hr h (ev_ok (a:=a) hT hop.1) (ev_ok (a:=a) hT hop.2))
 | slice t x lo hi mx=>
  simp only[opOk,bA] at hop
  exact qbo_ hF (fun c=>by simp) rfl (GivesP.gives hr <| slice_ok hr h (ev_ok (a:=a) hT hop.1.1.1) (evO_ok (a:=a) hT hop.1.1.2) (evO_ok (a:=a) hT hop.1.2) (evO_ok (a:=a) hT hop.2))
 | fieldAddr t x f=>exact qbo_ hF (fun c=>by simp) rfl (GivesP.gives hr <| qyd_ hr h (ev_ok (a:=a) hT hop))
 | field t x f=>exact qbo_ hF (fun c=>by simp) rfl (GivesP.gives hr <| field_ok hr h (ev_ok (a:=a) hT hop))
 | indexAddr t x y=>
  simp only[opOk,bA] at hop
  exact qbo_ hF (fun c=>by simp) rfl (GivesP.gives hr <| qyf_ hr h (ev_ok (a:=a) hT hop.1) (ev_ok (a:=a) hT hop.2))
 | index t x y=>
  simp only[opOk,bA] at hop
  exact qbo_ hF (fun c=>by simp) rfl (GivesP.gives hr <| index_ok hr h (ev_ok (a:=a) hT hop.1) (ev_ok (a:=a) hT hop.2))
 | extract x i=>exact qbo_ hF (fun c=>by simp) rfl (GivesP.gives hr <| extract_ok hr h (ev_ok (a:=a) hT hop))
 | call c=>exact call_ok hcall hF rfl hT hr hop h
 | makeInterface t x=>exact qbo_ hF (fun c=>by simp) rfl (GivesP.gives hr <| iface_ok hr h (ev_ok (a:=a) hT hop))
 | typeAssert x xt t ok=>exact qbo_ hF (fun c=>by simp) rfl (GivesP.gives hr <| assert_ok hr h (ev_ok (a:=a) hT hop))
 | _=>cases h
end Go.Proofs.YthlikofobjhcoaaGreat.Ax
namespace Go.Proofs.YthlikofobjhcoaaGreat.Ax
open Go.RowKit
variable [Tabs]
def isFlt (op:Op):Bool:=
 match op with
 | .alloc _=>true
 | .box _ _=>true
 | .buildSlice _ _ _=>true
 | .makeSlice _ _ _=>true
 | .makeMap _ none=>true
 | _=>false
def isChg (op:Op):Bool:=
 match op with
 | .store _ _ _=>true
 | .insert _ _ _ _=>true
 | .mapUpdate _ _ _ _=>true
 | .makeMap _ (some _)=>true
 | .range _ _=>true
 | .entry _=>true
 | .call c=>match c.callee with
  | .builtin .append=>true
  | .builtin .copy=>true
  | .builtin .clear=>true
  | .builtin .unsafeString=>true
  | .builtin .delete=>true
  | .builtin _=>false
  | _=>true
 | _=>false
theorem builtin_still {P:Program}{n0:Bs}{σ:Ren}{H H':AH}{w:World}(hr:HR n0 σ H w){b:Builtin}(h1:b ≠ .append)(h2:b ≠ .copy)(h3:b ≠ .clear)(h4:b ≠ .unsafeString)(h5:b ≠ .delete){ts:Array TypeId}{ty:TypeId}{l:List Value}{args:Array Value}{v:Value}(h:qot_ P b ts.toList ty l H=some (v,H'))(hl:VRs σ l args.toList) :
  ∃ s,(∀ consts,builtin b ts ty consts args=(do pure (.value (←s))))∧GivesP P n0 σ w H s v H':=by
 obtain⟨tl⟩:=ts
 unfold qot_ at h
 simp only at h
 split at h
 ·obtain⟨x',rfl,hx⟩:=arr1 hl
  refine⟨_,fun _=>rfl,?_⟩
  rcases qa_ h with⟨hf,h⟩ | ⟨hf,h⟩
  ·rw[qfs_ hf hx]; exact qjo_ hr h
  ·exact lenA_ok hr h hx
 ·obtain⟨x',rfl,hx⟩:=arr1 hl
  exact⟨_,fun _=>rfl,cap_ok hr rfl h hx⟩
 ·exact absurd rfl h1
 ·exact absurd rfl h2
 ·obtain⟨hf,h⟩:=sel_none h
  refine⟨_,fun _=>rfl,?_⟩
  have:=qr8_ hf hl
  have e:args=⟨_⟩:=Array.toList_inj.1 this
  rw[e]; exact qjo_ hr h
 ·obtain⟨hf,h⟩:=sel_none h
  refine⟨_,fun _=>rfl,?_⟩
  have:=qr8_ hf hl
  have e:args=⟨_⟩:=Array.toList_inj.1 this
  rw[e]; exact qjo_ hr h
 ·exact absurd rfl h3
 ·exact absurd rfl h5
 ·obtain⟨x',rfl,hx⟩:=arr1 hl
  exact⟨_,fun _=>rfl,qyp_ hr h hx⟩
 ·exact absurd rfl h4
 ·cases h
def Still (P:Program)(σ:Ren)(w:World)(o:Oper)(a:Act)(v:Value)(H H':AH):Prop:=
 H'=H∧(∀ c,o.op ≠ .defer c)∧∃ v',(execOp a.eval o).run P w=.ok (.value v') w∧VR σ v v'
theorem Still.of_gives {P:Program}{n0:Bs}{σ:Ren}{w:World}{o:Oper}{a:Act}{v:Value}{H H':AH}(hd:∀ c,o.op ≠ .defer c){s:Sem Value}(he:execOp a.eval o=(do pure (.value (←s))))(hg:GivesP P n0 σ w H s v H'):Still P σ w o a v H H':=by
 obtain⟨h1,v',h2,h3⟩:=hg
 exact⟨h1,hd,v',by rw[he]; simp[Sem.run_bind,h2],h3⟩
theorem q1j_ {P:Program}{N:Nat}{n0:Bs}{σ:Ren}{H H':AH}{w:World}{call:CallT}{o:Oper}{a:Act}{T:Tr Value}(hT:TR σ N T a.tmps)(hr:HR n0 σ H w)
  (hop:opOk o.op=true) (hc:isChg o.op=false) (hf:isFlt o.op=false) {v:Value} (h:qgd_ P call o.op o.type T H=some (v,H')):Still P σ w o a v H H':=by
 obtain⟨dst,op,ty,pos,after,guard⟩:=o
 cases op with
 | move x=>
  obtain⟨rfl,rfl⟩:=pI (oI h)
  exact⟨rfl,fun c=>by simp,_,by simp[execOp],ev_ok (a:=a) hT hop⟩
 | assign x=>
  obtain⟨rfl,rfl⟩:=pI (oI h)
  exact⟨rfl,fun c=>by simp,_,by simp[execOp],ev_ok (a:=a) hT hop⟩
 | pick c x y=>
  simp only[opOk,bA] at hop
  obtain⟨g,hg,h⟩:=oS h
  obtain⟨rfl,rfl⟩:=pI (oI h)
  have hcc:=ev_ok (a:=a) hT hop.1.1
  have hx:=ev_ok (a:=a) hT hop.1.2
  have hy:=ev_ok (a:=a) hT hop.2
  rw[asB_eq hg] at hcc
  generalize hcv:a.eval c=cv at hcc
  cases hcc
  refine⟨rfl,fun c=>by simp,if g then a.eval x else a.eval y,by simp[execOp,hcv,asBool],?_⟩
  cases g
  ·exact hy
  ·exact hx
 | build t ps=>exact .of_gives (n0:=n0) (fun c=>by simp) rfl (build_ok hr h (by simpa using evP_ok (a:=a) hT hop))
 | lookup t x y ok=>
  simp only[opOk,bA] at hop
  exact .of_gives (n0:=n0) (fun c=>by simp) rfl (lookup2_ok hr h (ev_ok (a:=a) hT hop.1) (ev_ok (a:=a) hT hop.2))
 | load t x=>exact .of_gives (n0:=n0) (fun c=>by simp) rfl (load_ok hr h (ev_ok (a:=a) hT hop))
 | nilCheck x=>
  obtain⟨rfl,rfl,hn⟩:=opNil_eq h
  have hv:=ev_ok (a:=a) hT hop
  exact⟨rfl,fun c=>by simp,_,nil_run2 hn hv rfl,hv⟩
 | binOp op t x y yt=>
  simp only[opOk,bA] at hop
  exact .of_gives (n0:=n0) (fun c=>by simp) rfl (bin_ok hr h (ev_ok (a:=a) hT hop.1) (ev_ok (a:=a) hT hop.2))
 | unOp op t x=>exact .of_gives (n0:=n0) (fun c=>by simp) rfl (un_ok hr h (ev_ok (a:=a) hT hop))
 | convert s d x=>exact .of_gives (n0:=n0) (fun c=>by simp) rfl (conv_ok hr h (ev_ok (a:=a) hT hop))
 | makeInterface t x=>exact .of_gives (n0:=n0) (fun c=>by simp) rfl (iface_ok hr h (ev_ok (a:=a) hT hop))
 | typeAssert x xt t ok=>exact .of_gives (n0:=n0) (fun c=>by simp) rfl (assert_ok hr h (ev_ok (a:=a) hT hop))
 | makeFunc fn first cap=>
  simp only[opOk,bA] at hop
  obtain⟨hf,h⟩:=sel_none h
  obtain⟨rfl,rfl⟩:=pI (oI h)
  exact⟨rfl,fun c=>by simp,.func fn (first.map a.eval) (cap.map a.eval),by simp[execOp,Instr.makeFunc],VRs.func (fnOk_vr hf σ) (by simpa using qyr_ (a:=a) hT hop.1) (by simpa using qyr_ (a:=a) hT hop.2)⟩
 | slice t x lo hi mx=>
  simp only[opOk,bA] at hop
  exact .of_gives (n0:=n0) (fun c=>by simp) rfl (slice_ok hr h (ev_ok (a:=a) hT hop.1.1.1) (evO_ok (a:=a) hT hop.1.1.2) (evO_ok (a:=a) hT hop.1.2) (evO_ok (a:=a) hT hop.2))
 | fieldAddr t x f=>exact .of_gives (n0:=n0) (fun c=>by simp) rfl (qyd_ hr h (ev_ok (a:=a) hT hop))
 | field t x f=>exact .of_gives (n0:=n0) (fun c=>by simp) rfl (field_ok hr h (ev_ok (a:=a) hT hop))
 | indexAddr t x y=>
  simp only[opOk,bA] at hop
  exact .of_gives (n0:=n0) (fun c=>by simp) rfl (qyf_ hr h (ev_ok (a:=a) hT hop.1) (ev_ok (a:=a) hT hop.2))
 | index t x y=>
  simp only[opOk,bA] at hop
  exact .of_gives (n0:=n0) (fun c=>by simp) rfl (index_ok hr h (ev_ok (a:=a) hT hop.1) (ev_ok (a:=a) hT hop.2))
 | extract x i=>exact .of_gives (n0:=n0) (fun c=>by simp) rfl (extract_ok hr h (ev_ok (a:=a) hT hop))
 | call c=>
  have h:qse_ P call c ty T H=some (v,H'):=h
  have hop:qu4_ c=true:=hop
  unfold qse_ at h
  unfold qu4_ at hop
  have hcc:(match c.callee with
   | .builtin .append=>true
   | .builtin .copy=>true
   | .builtin .clear=>true
   | .builtin .unsafeString=>true
   | .builtin .delete=>true
   | .builtin _=>false
   | _=>true)=false:=hc
  cases hcl:c.callee with
  | invoke r m=>rw[hcl] at hcc; cases hcc
  | value f=>rw[hcl] at hcc; cases hcc
  | builtin b=>
   rw[hcl] at h hop hcc
   simp only at h hop
   have hl:=qyr_ (a:=a) hT hop
   have hl':VRs σ (evL T c.args.toList) (c.args.map a.eval).toList:=by simpa using hl
   have b1:b ≠ .append:=fun e=>by subst e; cases hcc
   have b2:b ≠ .copy:=fun e=>by subst e; cases hcc
   obtain⟨s,e1,e2⟩:=builtin_still hr b1 b2 (fun e=>by subst e; cases hcc) (fun e=>by subst e; cases hcc) (fun e=>by subst e; cases hcc) h hl'
   refine .of_gives (n0:=n0) (fun c=>by simp) ?_ e2
   simp[execOp,resolve,hcl,invoke,e1]
 | alloc e=>cases hf
 | box e x=>cases hf
 | buildSlice t k ps=>cases hf
 | store t x y=>cases hc
 | insert t x y z=>cases hc
 | mapUpdate t x y z=>cases hc
 | range t x=>cases hc
 | entry x=>cases hc
 | makeMap t r=>
  cases r with
  | none=>cases hf
  | some x=>cases hc
 | makeSlice t x y=>cases hf
 | _=>cases h
theorem ev_congr {T T':Tr Value}{x:Operand}(h:∀ t,x=.tmp t→tget T t=tget T' t):ev T x=ev T' x:=by
 cases x with
 | tmp t=>exact h t rfl
 | _=>rfl
theorem qvo_ {T T':Tr Value}{l:List Operand}(h:∀ x∈l,ev T x=ev T' x):evL T l=evL T' l:=List.map_congr_left h
theorem q1k_ {T T':Tr Value}{l:List (Nat×Operand)}(h:∀ x∈l.map (·.2),ev T x=ev T' x):evP T l=evP T' l:=
 List.map_congr_left fun p hp=>by rw[h p.2 (List.mem_map.2 ⟨p,hp,rfl⟩)]
theorem qx2_ {T T':Tr Value}{x:Option Operand}(h:∀ y,x=some y→ev T y=ev T' y):evO T x=evO T' x:=by
 cases x with
 | none=>rfl
 | some y=>simp only[evO,Option.map_some,h y rfl]
theorem evalOp_congr {P:Program}{call:CallT}{op:Op}{ty:TypeId}{T T':Tr Value}{H:AH}(h:∀ x∈op.operands,ev T x=ev T' x):qgd_ P call op ty T H=qgd_ P call op ty T' H:=by
 cases op<;>simp only[Op.operands] at h<;>simp only[qgd_]
 case build t ps=>rw[q1k_ fun x hx=>h x (by simpa using hx)]
 case buildSlice t k ps=>rw[q1k_ fun x hx=>h x (by simpa using hx)]
 case makeFunc fn first cap=>rw[qvo_ fun x hx=>h x (by have hx':x∈first:=(by simpa using hx); simp[hx']),qvo_ (l:=cap.toList) fun x hx=>h x (by have hx':x∈cap:=(by simpa using hx); simp[hx'])]
 case makeMap t r=>rw[qx2_ fun y hy=>h y (by simp[hy])]
 case slice t x lo hi mx=>
  rw[h x (by simp),qx2_ fun y hy=>h y (by simp[hy]),qx2_ (x:=hi) fun y hy=>h y (by simp[hy]),qx2_ (x:=mx) fun y hy=>h y (by simp[hy])]
 case call c=>
  unfold qse_
  cases hc:c.callee with
  | value f=>
   simp only
   rw[h f (by simp[Call.operands,hc]),qvo_ fun x hx=>h x (by have hx':x∈c.args:=(by simpa using hx); simp[Call.operands,hc,hx'])]
  | builtin b=>
   simp only
   rw[qvo_ fun x hx=>h x (by have hx':x∈c.args:=(by simpa using hx); simp[Call.operands,hc,hx'])]
  | invoke r m=>
   simp only
   rw[h r (by simp[Call.operands,hc]),qvo_ fun x hx=>h x (by have hx':x∈c.args:=(by simpa using hx); simp[Call.operands,hc,hx'])]
 all_goals (first | rfl | (simp_all; done))
noncomputable def isLenM (P:Program)(c:Call):Bool:=
 match c.callee with
 | .builtin .len=>(match c.argTypes.toList with
  | [t]=>oc (mapB P t) false fun _=>true
  | _=>false)
 | _=>false
noncomputable def isMem (P:Program)(op:Op):Bool:=
 match op with
 | .call c=>isLenM P c
 | .convert s d _=>qw6_ P s d||isUns P s d
 | .lookup _ _ _ _=>true
 | .load _ _=>true
 | .binOp .eql _ _ _ _=>true
 | .binOp .neq _ _ _ _=>true
 | _=>false
theorem qld_ {P:Program}{s:Sem Value}{H H1:AH}{v:Value}(h:qwj_ P s H=some (v,H1))(H2:AH):qwj_ P s H2=some (v,H2):=by
 obtain⟨u,hu,h⟩:=oS h
 obtain⟨hf,h⟩:=sel_none h
 obtain⟨rfl,rfl⟩:=pI (oI h)
 simp only[qwj_,hu,oc_some,hf,sel_true]
theorem q1l_ {P:Program}{op:BinOp}{t:TypeId}{ox oy:Operand}{x y v:Value}{H H1:AH}(h:opGen P op t ox oy x y H=some (v,H1))(H2:AH):opGen P op t ox oy x y H2=some (v,H2):=by
 unfold opGen at h ⊢
 cases hs:strEq P op t x y with
 | some u=>
  rw[hs,oc_some] at h
  obtain⟨rfl,rfl⟩:=pI (oI h)
  rfl
 | none=>
 rw[hs,oc_none] at h
 rw[oc_none]
 obtain⟨hp,h⟩:=sel_none h
 show sel _ _ _=_
 rw[hp,sel_true]
 exact qld_ h H2
theorem cmp_none {op:BinOp}(h1:op ≠ .eql)(h2:op ≠ .neq)(b:Bool):cmpOp op b=none:=by cases op<;>first | rfl | exact absurd rfl h1 | exact absurd rfl h2
theorem opBin_any {P:Program}{op:BinOp}(h1:op ≠ .eql)(h2:op ≠ .neq){t:TypeId}{ox oy:Operand}{x y v:Value}{H H1:AH}(h:opBin P op t ox oy x y H=some (v,H1))(H2:AH):opBin P op t ox oy x y H2=some (v,H2):=by
 unfold opBin at h ⊢
 split at h
 ·rename_i k a k' b
  unfold opInt at h ⊢
  rcases qa_ h with⟨hk,h⟩ | ⟨hk,h⟩
  ·rw[hk,sel_true]
   cases hi:intOp op k a b with
   | none=>rw[hi,oc_none] at h; rw[oc_none]; exact q1l_ h H2
   | some u=>
    rw[hi] at h
    obtain⟨rfl,rfl⟩:=pI (oI h)
    rfl
  ·rw[hk,sel_false]; exact q1l_ h H2
 ·unfold opRest at h ⊢
  cases hp:qyc_ x y with
  | some p=>
   rw[hp] at h
   obtain⟨p',_,h⟩:=oS h
   obtain⟨d,_,h⟩:=oS h
   split at h
   ·obtain⟨n,_,h⟩:=oS h
    obtain⟨_,h⟩:=sel_none' h
    rw[cmp_none h1 h2] at h; cases h
   ·cases h
  | none=>
   rw[hp,oc_none] at h
   cases hn:nilEq x y with
   | none=>rw[hn] at h; exact q1l_ h H2
   | some b=>
    rw[hn] at h
    obtain⟨b',_,h⟩:=oS h
    obtain⟨d,_,h⟩:=oS h
    obtain⟨_,h⟩:=sel_none h
    rw[cmp_none h1 h2] at h; cases h
theorem pure_any {P:Program}{call:CallT}{op:Op}{ty:TypeId}{T:Tr Value}{H H1:AH}{v:Value}(hc:isChg op=false)(hf:isFlt op=false)(hm:isMem P op=false)(h:qgd_ P call op ty T H=some (v,H1))(H2:AH):qgd_ P call op ty T H2=some (v,H2):=by
 cases op with
 | move x=>obtain⟨rfl,rfl⟩:=pI (oI h); rfl
 | assign x=>obtain⟨rfl,rfl⟩:=pI (oI h); rfl
 | pick c x y=>
  obtain⟨g,hg,h⟩:=oS h
  obtain⟨rfl,rfl⟩:=pI (oI h)
  show oc _ _ _=_
  rw[hg]; rfl
 | build t ps=>
  obtain⟨hn,h⟩:=sel_none h
  obtain⟨g,hg,h⟩:=oS h
  obtain⟨g2,hg2,h⟩:=oS h
  obtain⟨rfl,rfl⟩:=pI (oI h)
  show sel _ _ _=_
  rw[hn,sel_true,hg,oc_some,hg2]; rfl
 | load t x=>cases hm
 | lookup t x y ok=>cases hm
 | nilCheck x=>exact opNil_any h H2
 | binOp op t x y yt=>
  refine opBin_any (fun e=>?_) (fun e=>?_) h H2
  ·subst e; cases hm
  ·subst e; cases hm
 | unOp op t x=>
  obtain⟨hn,h⟩:=sel_none h
  show sel _ _ _=_
  rw[hn,sel_true]; exact qld_ h H2
 | convert s d x=>
  have hm:(qw6_ P s d||isUns P s d)=false:=hm
  simp only[Bool.or_eq_false_iff] at hm
  obtain⟨hm,hu⟩:=hm
  have h:opConv P s d (ev T x) H=some (v,H1):=h
  show opConv P s d (ev T x) H2=some (v,H2)
  unfold opConv at h ⊢
  have e1:∀ K,qw7_ P s d (ev T x) K=none:=fun K=>by unfold qw7_; rfl
  rw[e1,oc_none,hm,Bool.false_and,sel_false] at h ⊢
  obtain⟨hn,h⟩:=sel_none h
  rw[hn,sel_true]; exact qld_ h H2
 | makeInterface t x=>
  obtain⟨d,hd,h⟩:=oS h
  rcases qa_ h with⟨_,h⟩ | ⟨hi,h⟩
  ·cases h
  obtain⟨rfl,rfl⟩:=pI (oI h)
  show opIface P t (ev T x) H2=_
  unfold opIface
  rw[hd,oc_some,hi,sel_false]
 | typeAssert x xt t ok=>
  obtain⟨hok,h⟩:=sel_none h
  obtain⟨q,hq,h⟩:=oS h
  obtain⟨ht,h⟩:=sel_none h
  obtain⟨d,hd,h⟩:=oS h
  rcases qa_ h with⟨_,h⟩ | ⟨hi,h⟩
  ·cases h
  obtain⟨rfl,rfl⟩:=pI (oI h)
  show q1h_ P (ev T x) t ok H2=_
  unfold q1h_
  rw[hok,sel_true,hq,oc_some,ht,sel_true,hd,oc_some,hi,sel_false]
 | makeFunc fn first cap=>
  obtain⟨hn,h⟩:=sel_none h
  obtain⟨rfl,rfl⟩:=pI (oI h)
  show sel _ _ _=_
  rw[hn]; rfl
 | slice t x lo hi mx=>
  have h:qki_ P t (ev T x) (evO T lo) (evO T hi) (evO T mx) H=some (v,H1):=h
  show qki_ P t (ev T x) (evO T lo) (evO T hi) (evO T mx) H2=some (v,H2)
  unfold qki_ at h ⊢
  rcases qa_ h with⟨hn,h⟩ | ⟨hn,h⟩
  ·rw[hn,sel_true]; exact qld_ h H2
  ·rw[hn,sel_false]
   rcases qa_ h with⟨hn,h⟩ | ⟨hn,h⟩
   ·rw[hn,sel_true]
    obtain⟨a,ha,h⟩:=oS h
    obtain⟨r,hr,h⟩:=oS h
    obtain⟨s,hs,h⟩:=oS h
    obtain⟨hb,h⟩:=sel_none h
    obtain⟨u,hu,h⟩:=oS h
    obtain⟨rfl,rfl⟩:=pI (oI h)
    simp only[qyj_,ha,hr,hs,hb,hu,oc_some,sel_true]
   ·rw[hn,sel_false]
    rcases qa_ h with⟨hn,h⟩ | ⟨hn,h⟩
    ·rw[hn,sel_true]
     obtain⟨a,ha,h⟩:=oS h
     obtain⟨r,hr,h⟩:=oS h
     obtain⟨s,hs,h⟩:=oS h
     obtain⟨u,hu,h⟩:=oS h
     obtain⟨g,hg,h⟩:=oS h
     obtain⟨hb,h⟩:=sel_none h
     obtain⟨rfl,rfl⟩:=pI (oI h)
     simp only[qsb_,ha,hr,hs,hu,hg,hb,oc_some,sel_true]
    ·rw[hn,sel_false]
     rcases qa_ h with⟨hq,h⟩ | ⟨hq,h⟩
     ·rw[hq,sel_true]
      obtain⟨a,ha,h⟩:=oS h
      obtain⟨q,hqq,h⟩:=oS h
      obtain⟨r,hr,h⟩:=oS h
      obtain⟨s,hs,h⟩:=oS h
      obtain⟨u,hu,h⟩:=oS h
      obtain⟨hb,h⟩:=sel_none h
      obtain⟨rfl,rfl⟩:=pI (oI h)
      simp only[qyl_,ha,hqq,hr,hs,hu,hb,oc_some,sel_true]
     ·rw[hq,sel_false]
      obtain⟨a,ha,h⟩:=oS h
      obtain⟨r,hr,h⟩:=oS h
      obtain⟨s,hs,h⟩:=oS h
      obtain⟨u,hu,h⟩:=oS h
      obtain⟨rfl,rfl⟩:=pI (oI h)
      simp only[qkw_,ha,hr,hs,hu,oc_some]
 | fieldAddr t x f=>
  have h:qhe_ P t (ev T x) f H=some (v,H1):=h
  obtain⟨rfl,h2⟩:=qz0_ h
  exact h2 H2
 | field t x f=>
  obtain⟨a,ha,h⟩:=oS h
  obtain⟨r,hr,h⟩:=oS h
  obtain⟨u,hu,h⟩:=oS h
  obtain⟨rfl,rfl⟩:=pI (oI h)
  show oc _ _ _=_
  rw[ha,oc_some,hr,oc_some,hu]; rfl
 | indexAddr t x y=>
  have h:qdt_ P t (ev T x) (ev T y) H=some (v,H1):=h
  show qdt_ P t (ev T x) (ev T y) H2=some (v,H2)
  unfold qdt_ at h ⊢
  rcases qa_ h with⟨hn,h⟩ | ⟨hn,h⟩
  ·rw[hn,sel_true]
   unfold qnh_ at h
   cases ha:qpj_ (ev T x) with
   | some a=>
    rw[ha,oc_some] at h
    obtain⟨r,hr,h⟩:=oS h
    obtain⟨s,hs,h⟩:=oS h
    obtain⟨u,hu,h⟩:=oS h
    obtain⟨rfl,rfl⟩:=pI (oI h)
    simp only[qnh_,ha,hr,hs,hu,oc_some]
   | none=>
    rw[ha,oc_none] at h
    obtain⟨a,hg,h⟩:=oS h
    obtain⟨r,hr,h⟩:=oS h
    obtain⟨s,hs,h⟩:=oS h
    obtain⟨u,hu,h⟩:=oS h
    obtain⟨rfl,rfl⟩:=pI (oI h)
    simp only[qnh_,ha,hg,hr,hs,hu,oc_some,oc_none]
  ·rw[hn,sel_false]
   obtain⟨rfl,h2⟩:=qye_ h
   exact h2 H2
 | index t x y=>
  have h:opIndex P t (ev T x) (ev T y) H=some (v,H1):=h
  show opIndex P t (ev T x) (ev T y) H2=some (v,H2)
  unfold opIndex at h ⊢
  rcases qa_ h with⟨hn,h⟩ | ⟨hn,h⟩
  ·rw[hn,sel_true]; exact qld_ h H2
  ·rw[hn,sel_false]
   obtain⟨a,ha,h⟩:=oS h
   obtain⟨r,hr,h⟩:=oS h
   obtain⟨s,hs,h⟩:=oS h
   obtain⟨u,hu,h⟩:=oS h
   obtain⟨q,hq,h⟩:=oS h
   obtain⟨rfl,rfl⟩:=pI (oI h)
   simp only[opIndexV,ha,hr,hs,hu,hq,oc_some]
 | extract x i=>
  obtain⟨a,ha,h⟩:=oS h
  obtain⟨rfl,rfl⟩:=pI (oI h)
  show oc _ _ _=_
  rw[ha]; rfl
 | call c=>
  have h:qse_ P call c ty T H=some (v,H1):=h
  show qse_ P call c ty T H2=some (v,H2)
  have hcc:(match c.callee with
   | .builtin .append=>true
   | .builtin .copy=>true
   | .builtin .clear=>true
   | .builtin .unsafeString=>true
   | .builtin .delete=>true
   | .builtin _=>false
   | _=>true)=false:=hc
  unfold qse_ at h ⊢
  cases hcl:c.callee with
  | invoke r m=>rw[hcl] at hcc; cases hcc
  | value f=>rw[hcl] at hcc; cases hcc
  | builtin b=>
   have hm':isLenM P c=false:=hm
   unfold isLenM at hm'
   rw[hcl] at h hcc hm'
   simp only at h hm' ⊢
   generalize c.argTypes.toList=ts at h hm' ⊢
   generalize evL T c.args.toList=l at h ⊢
   unfold qot_ at h ⊢
   split at h
   ·rcases qa_ h with⟨hn,h⟩ | ⟨hn,h⟩
    ·rw[hn,sel_true]; exact qld_ h H2
    ·rw[hn,sel_false]
     rename_i t _ _
     refine lenA_any (t:=t) ?_ h H2
     have hm2:(oc (mapB P t) false fun _=>true)=false:=hm'
     cases hq:mapB P t with
     | none=>rfl
     | some q=>rw[hq] at hm2; cases hm2
   ·obtain⟨a,ha,h⟩:=oS h
    obtain⟨r,hr,h⟩:=oS h
    obtain⟨hb,h⟩:=sel_none h
    obtain⟨rfl,rfl⟩:=pI (oI h)
    simp only[opCap,ha,hr,hb,oc_some,sel_true]
   ·cases hcc
   ·cases hcc
   ·obtain⟨hb,h⟩:=sel_none h
    simp only[hb,sel_true]
    exact qld_ h H2
   ·obtain⟨hb,h⟩:=sel_none h
    simp only[hb,sel_true]
    exact qld_ h H2
   ·cases hcc
   ·cases hcc
   ·unfold qto_ at h; cases h
   ·cases hcc
   ·cases h
 | alloc e=>cases hf
 | box e x=>cases hf
 | buildSlice t k ps=>cases hf
 | store t x y=>cases hc
 | insert t x y z=>cases hc
 | mapUpdate t x y z=>cases hc
 | range t x=>cases hc
 | entry x=>cases hc
 | makeMap t r=>
  cases r with
  | none=>cases hf
  | some x=>cases hc
 | makeSlice t x y=>cases hf
 | _=>cases h
end Go.Proofs.YthlikofobjhcoaaGreat.Ax
namespace Go.Proofs.YthlikofobjhcoaaGreat.Ax
open Go.RowKit
variable [Tabs]
noncomputable def AH.fresh (H:AH):AH:=⟨H.blocks,H.next,H.next⟩
noncomputable def AH.back (H:AH)(low:Nat):AH:=⟨H.blocks,H.next,Nat.min low H.low⟩
theorem HR.fresh' {n0:Bs}{σ:Ren}{H:AH}{w:World}(hr:HR n0 σ H w):HR n0 σ H.fresh w:=hr.congr (fun _=>rfl) rfl
theorem HR.back {n0:Bs}{σ:Ren}{H:AH}{w:World}(hr:HR n0 σ H w)(low:Nat):HR n0 σ (H.back low) w:=hr.congr (fun _=>rfl) rfl
noncomputable def putO (T:Tr Value)(d:Option Nat)(v:Value):Tr Value:=oc d T fun i=>T.set i v
def dstOk (N:Nat)(d:Option Nat):Bool:=
 match d with
 | none=>true
 | some i=>Nat.blt i N
theorem qyt_ {σ:Ren}{N:Nat}{T:Tr Value}{a:Act}(hT:TR σ N T a.tmps){d:Option Nat}(hd:dstOk N d=true){v v':Value}(hv:VR σ v v'):TR σ N (putO T d v) (a.put d v').tmps:=by
 cases d with
 | none=>exact hT
 | some i=>exact hT.set hv (qfr_ hd)
def boolIs (v:Value)(b:Bool):Bool:=
 match v with
 | .bool c=>c == b
 | _=>false
theorem boolIs_vr {σ:Ren}{v v':Value}(h:VR σ v v')(hn:isAny v=false)(b:Bool):boolIs v' b=boolIs v b:=by
 cases h with
 | any _=>cases hn
 | _=>rfl
def dstOf (ops:List Oper)(j:Nat):Option Nat:=(ops[j]?).bind (·.dst)
noncomputable def qf2_ (all:List Oper)(o:Oper)(T:Tr Value):Bool:=oc o.guard true fun g=>oc (dstOf all g.1) false fun d=>boolIs (tget T d) g.2
def operOk (N:Nat)(o:Oper):Bool:=opOk o.op&&dstOk N o.dst
def qsg_ (N:Nat):List Oper→Bool
 | []=>true
 | o::l=>operOk N o&&qsg_ N l
theorem qpn_ {N:Nat}:∀ {l:List Oper},qsg_ N l=true→∀ o∈l,operOk N o=true
 | [],_,o,ho=>by cases ho
 | x::l,h,o,ho=>by
  simp only[qsg_,bA] at h
  cases ho with
  | head=>exact h.1
  | tail _ ho=>exact qpn_ h.2 o ho
noncomputable def qnk_ (all:List Oper)(o:Oper)(T:Tr Value):Bool:=oc o.guard true fun g=>oc (dstOf all g.1) true fun d=>!isAny (tget T d)
theorem qyu_ {σ:Ren}{N:Nat}{T:Tr Value}{ts:Array Value}(hT:TR σ N T ts){ops:Array Oper}(hall:qsg_ N ops.toList=true)(o:Oper)(hk:qnk_ ops.toList o T=true):Region.wanted o (yielded ops ts)=qf2_ ops.toList o T:=by
 unfold qnk_ at hk
 unfold Region.wanted qf2_
 cases hg:o.guard with
 | none=>rfl
 | some g=>
  obtain⟨j,want⟩:=g
  simp only[oc_some]
  unfold yielded dstOf
  simp only[Array.getElem?_toList]
  cases hj:ops[j]? with
  | none=>simp
  | some oj=>
   simp only[Option.bind_some]
   cases hd:oj.dst with
   | none=>simp
   | some d=>
    simp only[Option.bind_some,oc_some]
    have hok:=qpn_ hall oj (by have:=Array.mem_of_getElem? hj; simpa using this)
    simp only[operOk,bA,hd,dstOk] at hok
    have hlt:d<ts.size:=by rw[hT.size]; exact qfr_ hok.2
    have hs:=hT.slot d
    have h1:ts[d]?=some (ts.getD d undef):=by simp[hlt]
    rw[h1]
    have hkn:isAny (tget T d)=false:=by
     rw[hg,oc_some] at hk
     unfold dstOf at hk
     rw[Array.getElem?_toList,hj,Option.bind_some,hd,oc_some] at hk
     simpa using hk
    rw[←boolIs_vr hs hkn]
    generalize ts.getD d undef=v
    cases v<;>simp[boolIs]
noncomputable def qyv_ (P:Program)(call:CallT)(all l:List Oper):Tr Value→AH→Option (Tr Value×AH):=
 @List.rec Oper (fun _=>Tr Value→AH→Option (Tr Value×AH)) (fun T H=>some (T,H))
  (fun o _ ih T H=>sel (qnk_ all o T) (sel (qf2_ all o T) (sel (isChg o.op||isFlt o.op) (oc (qgd_ P call o.op o.type T H.fresh) none fun r=>ih (putO T o.dst r.1) (r.2.back H.low)) (oc (qgd_ P call o.op o.type T H) none fun r=>ih (putO T o.dst r.1) H)) (ih (putO T o.dst undef) H)) none) l
theorem qyw_ (P:Program)(call:CallT)(all:List Oper)(o:Oper)(l:List Oper)(T:Tr Value)(H:AH) :
  qyv_ P call all (o::l) T H=sel (qnk_ all o T) (sel (qf2_ all o T) (sel (isChg o.op||isFlt o.op) (oc (qgd_ P call o.op o.type T H.fresh) none fun r=>qyv_ P call all l (putO T o.dst r.1) (r.2.back H.low)) (oc (qgd_ P call o.op o.type T H) none fun r=>qyv_ P call all l (putO T o.dst r.1) H)) (qyv_ P call all l (putO T o.dst undef) H)) none:=rfl
theorem qnc_ {P:Program}{call:CallT}{all:List Oper}:∀ {l:List Oper} {T T':Tr Value} {H H':AH},qyv_ P call all l T H=some (T',H')→H'.low≤H.low
 | [],T,T',H,H',h=>by obtain⟨rfl,rfl⟩:=pI (oI h); exact Nat.le_refl _
 | o::l,T,T',H,H',h=>by
  rw[qyw_] at h
  obtain⟨_,h⟩:=sel_none h
  rcases qa_ h with⟨_,h⟩ | ⟨_,h⟩
  ·rcases qa_ h with⟨_,h⟩ | ⟨_,h⟩
   ·obtain⟨r,_,h⟩:=oS h
    exact Nat.le_trans (qnc_ h) (Nat.min_le_left _ _)
   ·obtain⟨r,_,h⟩:=oS h
    exact qnc_ h
  ·exact qnc_ h
def At (n0:Bs)(N:Nat)(σ:Ren)(w:World)(T':Tr Value)(H':AH)(D:List Deferred)(a':Act)(w':World):Prop:=
 ∃ σ',TR σ' N T' a'.tmps∧a'.defers=D∧HR n0 σ' H' w'∧Step n0 σ w H'.low σ' w'
theorem Act.put_defers' (a:Act)(d:Option Tmp)(v:Value):(a.put d v).defers=a.defers:=by cases d<;>rfl
theorem execOps_ok {P:Program}{F:Fence}{n N:Nat}{n0:Bs}{call:CallT}(hcall:qn1_ P n0.n.n call)(hF:WideF F){ops:Array Oper}(hall:qsg_ N ops.toList=true){Q:Exit→Act→World→Prop} :
  ∀ (l:List Oper) (i:Nat),ops.toList.drop i=l→∀ {T T':Tr Value} {H H':AH} {σ:Ren} {w:World} {a:Act},qyv_ P call ops.toList l T H=some (T',H')→TR σ N T a.tmps→HR n0 σ H w →
   (∀ a' w',At n0 N σ w T' H' a.defers a' w'→Q .normal a' w')→wpOpsIn F n P ops Q (List.range' i l.length) a w:=by
 intro l
 induction l with
 | nil=>
  intro i _ T T' H H' σ w a h hT hr hQ
  obtain⟨rfl,rfl⟩:=pI (oI h)
  exact hQ a w ⟨σ,hT,rfl,hr,Step.refl _ _ _ _⟩
 | cons o l ih=>
  intro i hi T T' H H' σ w a h hT hr hQ
  have hget:ops[i]?=some o:=by
   have:=congrArg (fun m=>m[0]?) hi
   simpa [List.getElem?_drop] using this
  have hdrop:ops.toList.drop (i+1)=l:=by
   have:=congrArg (List.drop 1) hi
   simpa [List.drop_drop,Nat.add_comm] using this
  have hok:=qpn_ hall o (by have:=Array.mem_of_getElem? hget; simpa using this)
  simp only[operOk,bA] at hok
  rw[qyw_] at h
  obtain⟨hgk,h⟩:=sel_none h
  simp only[List.length_cons,List.range'_succ,wpOpsIn,hget]
  rw[qyu_ hT hall o hgk]
  rcases qa_ h with⟨hw,h⟩ | ⟨hw,h⟩
  ·rcases qa_ h with⟨hcf,h⟩ | ⟨hcf,h⟩
   case inr=>
    obtain⟨r,hr1,h⟩:=oS h
    rw[if_pos hw]
    simp only[Bool.or_eq_false_iff] at hcf
    obtain⟨hsame,hd,v',q1,q2⟩:=q1j_ (P:=P) hT hr hok.1 hcf.1 hcf.2 hr1
    refine⟨fun f _=>hF.fn f,?_⟩
    rw[Oper.semAt_eq F.round a.eval o hd,q1]
    refine ih (i+1) hdrop h (qyt_ hT hok.2 q2) hr ?_
    rintro a'' w'' ⟨σ'',h1,h2,h3,h4⟩
    exact hQ a'' w'' ⟨σ'',h1,by rw[h2,Act.put_defers'],h3,h4⟩
   obtain⟨r,hr1,h⟩:=oS h
   rw[if_pos hw]
   refine Oper.wpIn_mono ?_ (op_ok hcall hF hT hr.fresh' hok.1 hr1)
   rintro a' w' ⟨v',σ',rfl,hv,hr',st⟩
   refine ih (i+1) hdrop h (qyt_ (hT.mono st.ext) hok.2 hv) (hr'.back _) ?_
   rintro a'' w'' ⟨σ'',h1,h2,h3,h4⟩
   refine hQ a'' w'' ⟨σ'',h1,by rw[h2,Act.put_defers'],h3,?_⟩
   exact (st.lower (Nat.min_le_right H.low r.2.low)).trans h4 (qnc_ h)
  ·rw[if_neg (by rw[hw]; exact Bool.false_ne_true)]
   refine⟨fun f _=>hF.fn f,ih (i+1) hdrop h (qyt_ hT hok.2 (qo4_ σ)) hr ?_⟩
   rintro a'' w'' ⟨σ'',h1,h2,h3,h4⟩
   exact hQ a'' w'' ⟨σ'',h1,by rw[h2,Act.put_defers'],h3,h4⟩
noncomputable def regSeq (P:Program)(call:CallT)(N:Nat)(ops:List Oper)(T:Tr Value)(H:AH):Option (Tr Value×AH):=sel (qsg_ N ops) (qyv_ P call ops ops T H) none
theorem regSeq_ok {P:Program}{F:Fence}{n N:Nat}{n0:Bs}{call:CallT}(hcall:qn1_ P n0.n.n call)(hF:WideF F){id:Nat}{ops:Array Oper}{T T':Tr Value}{H H':AH}{σ:Ren}{w:World}{a:Act}(h:regSeq P call N ops.toList T H=some (T',H'))(hT:TR σ N T a.tmps)(hr:HR n0 σ H w)
  {Q:Exit→Act→World→Prop} (hQ:∀ a' w',At n0 N σ w T' H' a.defers a' w'→Q .normal a' w'):(Code.region id ops false).wpIn F n P Q a w:=by
 obtain⟨hall,h⟩:=sel_none h
 refine wpIn_region ?_
 have:=execOps_ok hcall hF hall (Q:=Q) (n:=n) ops.toList 0 (by simp) h hT hr hQ
 rwa [List.range_eq_range',show ops.size=ops.toList.length by simp]
end Go.Proofs.YthlikofobjhcoaaGreat.Ax
namespace Go.Proofs.YthlikofobjhcoaaGreat.Ax
open Go.RowKit
variable [Tabs]
def loopOf (x:ABlk):Option ALoop:=
 match x with
 | .loop r=>some r
 | _=>none
noncomputable def qwm_ (H:AH)(l:Nat):Option ALoop:=oc (H.blocks.get l) none loopOf
theorem loopAt_eq {H:AH}{l:Nat}{r:ALoop}(h:qwm_ H l=some r):H.blocks.get l=some (.loop r):=by
 obtain⟨y,hy,h⟩:=oS h
 unfold loopOf at h
 split at h
 ·obtain rfl:=oI h; exact hy
 ·cases h
structure LoopR (σ:Ren) (r:ALoop) (q:Loop):Prop where
 st:q.state=r.st
 pend:q.pending=r.pend
 tmps:TR σ r.N r.T q.tmps
 params:q.params=r.params
 assign:q.assign=r.assign
 body:q.body=r.body
 defers:σ r.defers=some (q.defers,0,0)
theorem HR.loop {n0:Bs}{σ:Ren}{H:AH}{w:World}(hr:HR n0 σ H w){l:Nat}{r:ALoop}(h:qwm_ H l=some r){c d m:Nat}(hs:σ l=some (c,d,m)):∃ q,w.heap[c]?=some (.loop q)∧LoopR σ r q∧d=0∧m=0:=by
 obtain⟨c',d',m',hs',hn,hB⟩:=hr.blk l _ (loopAt_eq h)
 rw[hs] at hs'
 injection hs' with hs'
 injection hs' with e1 hs'
 injection hs' with e2 e3
 subst e1 e2 e3
 obtain⟨fn,ts,dc,h1,h2,h3,h4,h5⟩:=hB
 exact⟨_,h1,⟨rfl,rfl,h2,rfl,rfl,rfl,h3⟩,h4,h5⟩
theorem LoopR.br {σ:Ren}{r:ALoop}{q:Loop}(h:LoopR σ r q):BR σ 0 0 (some (.loop q)) (.loop r):=by
 obtain⟨st,pend,fn,ts,ps,as,bd,df⟩:=q
 obtain⟨rfl,rfl,h3,rfl,rfl,rfl,h7⟩:=h
 exact⟨fn,ts,df,rfl,h3,h7,rfl,rfl⟩
theorem qnd_ {P:Program}{w:World}{c:Nat}{q:Loop}(h:w.heap[c]?=some (.loop q)):(Instr.getLoop c).run P w=.ok q w:=by
 simp[Instr.getLoop,getObj,Sem.run,Sem.run_bind,h]
theorem qwn_ {P:Program}{w:World}{c:Nat}{q:Loop}(h:w.heap[c]?=some (.loop q))(o:Obj):(setObj c o).run P w=.ok () (qhj_ w c o):=by
 simp[setObj,Sem.run,h,qhj_]
def stReady (s:LoopState):Bool:=
 match s with
 | .ready=>true
 | _=>false
def stBusy (s:LoopState):Bool:=
 match s with
 | .busy=>true
 | _=>false
noncomputable def AH.setL (H:AH)(l:Nat)(r:ALoop)(st:LoopState)(pend:Option Code):AH:=H.setB l (.loop { r with st:=st,pend:=pend })
theorem setL_ok {n0:Bs}{σ:Ren}{H:AH}{w:World}(hr:HR n0 σ H w){l:Nat}{r:ALoop}(h:qwm_ H l=some r){c d m:Nat}(hs:σ l=some (c,d,m))(st:LoopState)(pend:Option Code) :
  ∃ q,w.heap[c]?=some (.loop q)∧LoopR σ r q∧HR n0 σ (H.setL l r st pend) (qhj_ w c (.loop { q with state:=st,pending:=pend }))∧Step n0 σ w (H.setL l r st pend).low σ (qhj_ w c (.loop { q with state:=st,pending:=pend })):=by
 obtain⟨q,h1,h2,rfl,rfl⟩:=hr.loop h hs
 have hl:LoopR σ { r with st:=st,pend:=pend } { q with state:=st,pending:=pend }:=⟨rfl,rfl,h2.tmps,h2.params,h2.assign,h2.body,h2.defers⟩
 obtain⟨g1,g2⟩:=hr.setObj (loopAt_eq h) hs hl.br
 exact⟨q,h1,h2,g1,g2⟩
theorem begin_ok {P:Program}{n0:Bs}{σ:Ren}{H:AH}{w:World}(hr:HR n0 σ H w){l:Nat}{r:ALoop}(h:qwm_ H l=some r){c d m:Nat}(hs:σ l=some (c,d,m))(hst:stReady r.st=true) :
  ∃ w',(Instr.beginRound c).run P w=.ok () w'∧HR n0 σ (H.setL l r .busy r.pend) w'∧Step n0 σ w (H.setL l r .busy r.pend).low σ w':=by
 obtain⟨q,h1,h2,g1,g2⟩:=setL_ok hr h hs .busy r.pend
 have hq:q.state=.ready:=by
  rw[h2.st]
  cases hx:r.st<;>rw[hx] at hst<;>first | rfl | exact absurd hst Bool.false_ne_true
 rw[←h2.pend] at g1 g2
 refine⟨_,?_,by rw[←h2.pend]; exact g1,by rw[←h2.pend]; exact g2⟩
 simp[Instr.beginRound,Sem.run_bind,qnd_ h1,qwn_ h1,hq]
theorem end_ok {P:Program}{n0:Bs}{σ:Ren}{H:AH}{w:World}(hr:HR n0 σ H w){l:Nat}{r:ALoop}(h:qwm_ H l=some r){c d m:Nat}(hs:σ l=some (c,d,m))(jump:Option Code) :
  ∃ w',(Instr.endRound c jump).run P w=.ok (.bool jump.isNone) w'∧HR n0 σ (H.setL l r (if jump.isNone then .ready else .done) jump) w'∧Step n0 σ w (H.setL l r (if jump.isNone then .ready else .done) jump).low σ w':=by
 obtain⟨q,h1,h2,g1,g2⟩:=setL_ok hr h hs (if jump.isNone then .ready else .done) jump
 refine⟨_,?_,g1,g2⟩
 simp[Instr.endRound,Sem.run_bind,qnd_ h1,qwn_ h1]
theorem endLoop_ok {P:Program}{n0:Bs}{σ:Ren}{H:AH}{w:World}(hr:HR n0 σ H w){l:Nat}{r:ALoop}(h:qwm_ H l=some r){c d m:Nat}(hs:σ l=some (c,d,m))(hst:stBusy r.st=false) :
  ∃ w',(Instr.endLoop c).run P w=.ok r.pend w'∧HR n0 σ (H.setL l r .exhausted r.pend) w'∧Step n0 σ w (H.setL l r .exhausted r.pend).low σ w':=by
 obtain⟨q,h1,h2,g1,g2⟩:=setL_ok hr h hs .exhausted r.pend
 have hq:¬ (q.state=.busy):=by
  rw[h2.st]
  intro e
  rw[e] at hst
  cases hst
 rw[←h2.pend] at g1 g2
 refine⟨_,?_,by rw[←h2.pend]; exact g1,by rw[←h2.pend]; exact g2⟩
 simp[Instr.endLoop,Sem.run_bind,qnd_ h1,qwn_ h1,hq,h2.pend]
inductive DItem where
 | mark (b:Nat)
 | call (g:Nat) (cap:List Value)
inductive DR (σ:Ren):List DItem→List Deferred→Prop
 | nil:DR σ [] []
 | cons {b c:Nat} {l:List DItem} {ds:List Deferred} (h:σ b=some (c,0,0)) (hl:DR σ l ds):DR σ (.mark b::l) ({ target:=.collected c,args:=#[] } :: ds)
 | call {g:Nat} {cap:List Value} {x:Array Value} {l:List DItem} {ds:List Deferred} (hx:VRs σ cap x.toList) (hl:DR σ l ds):DR σ (.call g cap::l) ({ target:=.fn (.func g) x,args:=#[] } :: ds)
theorem DR.mono {σ σ':Ren}(h:σ.Ext σ'){l:List DItem}{ds:List Deferred}(hd:DR σ l ds):DR σ' l ds:=by
 induction hd with
 | nil=>exact .nil
 | cons hb _ ih=>exact .cons (h _ _ hb) ih
 | call hx _ ih=>exact .call (hx.mono h) ih
theorem HR.push {n0:Bs}{σ:Ren}{H:AH}{w:World}(hr:HR n0 σ H w){x:ABlk}{o:Obj}(hx:BR (σ.put H.next (w.heap.size,0,0)) 0 0 (some o) x) :
  ∃ σ',σ'.Ext σ'∧σ' H.next=some (w.heap.size,0,0)∧HR n0 σ' (H.push x) (w.alloc o)∧Step n0 σ w H.low σ' (w.alloc o):=
 ⟨_,.refl _,Ren.put_self _ _ _,(hr.alloc hx).1,(hr.alloc hx).2⟩
end Go.Proofs.YthlikofobjhcoaaGreat.Ax
namespace Go.Proofs.YthlikofobjhcoaaGreat.Ax
open Go.RowKit
variable [Tabs]
section scopes
variable {F:Fence} {n:Nat} {P:Program} {b:Frame} {a:Act} {k:List Item} {cs:List Frame} {w:World} {Q:Exit→Act→World→Prop}
theorem qne_ {c:Code}:step P (lone (b.atR a (.code (.scope c)::k)) cs w)=.next (lone (b.atR a (.code c :: .inScope c::k)) cs w):=
 step_lone_go (by simp[stepG,stepG.exec,Frame.atR])
theorem stepR_inScope {c:Code}:step P (lone (b.atR a (.inScope c::k)) cs w)=.next (lone (b.atR a k) cs w):=
 step_lone_go (by simp[stepG,stepG.exec,Frame.atR])
theorem qyx_ {c:Code}(hQ:∀ l a w,¬ Q (.goto l) a w)(h:c.wpIn F n P Q a w):(Code.scope c).wpIn F n P Q a w:=by
 intro b k cs hro hb hr
 have h0:(lone (b.atR a (.code (.scope c)::k)) cs w).fenced P F:=fenced_calm hb hr rfl
 obtain⟨e,a₁,w₁,hq,harr⟩:=h b (.inScope c::k) cs hro hb hr
 cases e with
 | normal=>exact⟨.normal,a₁,w₁,hq,.head h0 qne_ (StepsIn.trans harr (.one (fenced_calm hb hr rfl) stepR_inScope))⟩
 | exit id=>
  have hx:exitTo id (.inScope c::k)=exitTo id k:=by simp[exitTo]
  exact⟨.exit id,a₁,w₁,hq,fun k' hk=>.head h0 qne_ (harr.1 k' (by rw[hx]; exact hk)),
   fun hr' hk=>let ⟨k₁,h1,h2⟩:=harr.2 hr' (by rw[hx]; exact hk); ⟨k₁,h1,.head h0 qne_ h2⟩⟩
 | goto l=>exact absurd hq (hQ _ _ _)
 | ret=>exact⟨_,a₁,w₁,hq,.of_steps (.one h0 qne_) harr⟩
 | panic ch=>exact⟨_,a₁,w₁,hq,.of_steps (.one h0 qne_) harr⟩
 | outgrown=>exact⟨_,a₁,w₁,hq,.of_steps (.one h0 qne_) harr⟩
end scopes
inductive Ex where
 | normal
 | exit (i:Nat)
 | ret
def eR:Ex→Exit
 | .normal=>.normal
 | .exit i=>.exit i
 | .ret=>.ret
abbrev XSt:=Tr Value×List DItem×AH
abbrev XRes:=Option (Ex×XSt)
abbrev RegT:=CallT→Nat→List Oper→Tr Value→AH→Option (Tr Value×AH)
noncomputable def bindX (r:XRes)(k:XSt→XRes):XRes:=oc r none fun x=>@Ex.rec (fun _=>XRes) (k x.2) (fun _=>r) r x.1
noncomputable def blockX (i:Nat)(r:XRes):XRes:=oc r none fun x=>@Ex.rec (fun _=>XRes) r (fun j=>sel (Nat.beq j i) (some (.normal,x.2)) r) r x.1
noncomputable def regionX (rd:RegT)(P:Program)(call:CallT)(N:Nat)(draw:Bool)(ops:List Oper)(s:XSt):XRes:=
 oc (sel draw (rd call N ops s.1 s.2.2) (regSeq P call N ops s.1 s.2.2)) none fun r=>some (.normal,(r.1,s.2.1,r.2))
noncomputable def condX (c:Operand)(s:XSt)(x y:XRes):XRes:=sel (opdOk c) (oc (asB (ev s.1 c)) none fun b=>sel b x y) none
noncomputable def callRF (call:CallT)(f:Operand)(T:Tr Value)(L:Nat)(H:AH):Option AH:=
 oc (fnVal (ev T f) [.func (.yield L) #[] #[]]) none fun p=>match p.1 with
  | .func _=>oc (call p.1 p.2 H.fresh) none fun r=>some (r.2.back H.low)
  | _=>none
noncomputable def leaveRF (ih:Code→XSt→XRes)(T:Tr Value)(D:List DItem)(L:Nat)(H:AH):XRes:=
 oc (qwm_ H L) none fun r=>sel (stBusy r.st) none
  (oc r.pend (some (.normal,(T,D,H.setL L r .exhausted r.pend))) fun c=>ih c (T,D,H.setL L r .exhausted r.pend))
noncomputable def goRF (call:CallT)(ih:Code→XSt→XRes)(N:Nat)(f:Operand)(ps:Array Tmp)(as bd:Code)(T:Tr Value)(D:List DItem)(df:Nat)(H:AH):XRes:=
 sel (opdOk f) (oc (callRF call f T H.next (H.push (.loop ⟨.ready,none,T,N,ps,as,bd,df⟩))) none fun H3=>leaveRF ih T D H.next H3) none
noncomputable def rangeX (call:CallT)(ih:Code→XSt→XRes)(rnd:Option Nat)(N:Nat)(f:Operand)(ps:Array Tmp)(as bd:Code)(s:XSt):XRes:=
 oc rnd (goRF call ih N f ps as bd s.1 (.mark s.2.2.next::s.2.1) s.2.2.next (s.2.2.push (.marks true)))
  fun l=>oc (qwm_ s.2.2 l) none fun r=>goRF call ih N f ps as bd s.1 s.2.1 r.defers s.2.2
noncomputable def exec (rd:RegT)(P:Program)(call:CallT)(rnd:Option Nat)(N n:Nat):Code→XSt→XRes:=
 @Nat.rec (fun _=>Code→XSt→XRes) (fun _ _=>none)
  (fun _ ih c s=>@Code.rec (fun _=>XRes)
   (some (.normal,s))
   (fun _ ops draw=>regionX rd P call N draw ops.toList s)
   (fun a b _ _=>bindX (ih a s) (ih b))
   (fun c a b _ _=>condX c s (ih a s) (ih b s))
   (fun i b _=>blockX i (ih b s))
   (fun b _=>bindX (ih b s) (ih (.loop b)))
   (fun f ps as bd _ _=>rangeX call ih rnd N f ps as bd s)
   (fun i=>some (.exit i,s))
   (fun b _=>ih b s)
   (fun _=>some (.normal,s))
   (fun _=>none)
   (some (.ret,s))
   (fun _=>none) c) n
section eqs
variable (rd:RegT) (P:Program) (call:CallT) (rnd:Option Nat) (N n:Nat) (s:XSt)
theorem q0m_ (id:Nat)(ops:Array Oper)(d:Bool):exec rd P call rnd N (n+1) (.region id ops d) s=regionX rd P call N d ops.toList s:=rfl
theorem exec_seq (a b:Code):exec rd P call rnd N (n+1) (.seq a b) s=bindX (exec rd P call rnd N n a s) (exec rd P call rnd N n b):=rfl
theorem exec_cond (c:Operand)(a b:Code):exec rd P call rnd N (n+1) (.cond c a b) s=condX c s (exec rd P call rnd N n a s) (exec rd P call rnd N n b s):=rfl
theorem exec_block (i:Nat)(b:Code):exec rd P call rnd N (n+1) (.block i b) s=blockX i (exec rd P call rnd N n b s):=rfl
theorem exec_loop (b:Code):exec rd P call rnd N (n+1) (.loop b) s=bindX (exec rd P call rnd N n b s) (exec rd P call rnd N n (.loop b)):=rfl
theorem exec_scope (b:Code):exec rd P call rnd N (n+1) (.scope b) s=exec rd P call rnd N n b s:=rfl
theorem qyy_ (f:Operand)(ps:Array Tmp)(as bd:Code):exec rd P call rnd N (n+1) (.rangeFunc f ps as bd) s=rangeX call (exec rd P call rnd N n) rnd N f ps as bd s:=rfl
end eqs
def CodeAt (n0:Bs)(N:Nat)(σ:Ren)(w:World)(x:Ex×XSt)(e:Exit)(a':Act)(w':World):Prop:=
 e=eR x.1∧∃ σ',TR σ' N x.2.1 a'.tmps∧DR σ' x.2.2.1 a'.defers∧HR n0 σ' x.2.2.2 w'∧Step n0 σ w x.2.2.2.low σ' w'
def RndR (σ:Ren):Option Nat→Option Nat→Prop
 | none,ro=>ro=none
 | some l,ro=>∃ c,ro=some c∧σ l=some (c,0,0)
theorem RndR.mono {σ σ':Ren}(h:σ.Ext σ'){r ro:Option Nat}(hr:RndR σ r ro):RndR σ' r ro:=by
 cases r with
 | none=>exact hr
 | some l=>obtain⟨c,h1,h2⟩:=hr; exact⟨c,h1,h _ _ h2⟩
def RdLow (rd:RegT):Prop:=∀ call N ops T H T' H',rd call N ops T H=some (T',H')→H'.low≤H.low
def RdOK (P:Program)(n0:Nat)(rd:RegT):Prop:=
 ∀ (Q X:Nat→Prop) (call:CallT),qn1_ P n0 call→∀ (F:Fence),WideF F→∀ (n N id:Nat) (ops:Array Oper) (T T':Tr Value) (H H':AH) (σ:Ren) (w:World) (a:Act),rd call N ops.toList T H=some (T',H')→TR σ N T a.tmps→HR ⟨⟨n0,Q⟩,X⟩ σ H w →
  ∀ (K:Exit→Act→World→Prop),(∀ a' w',At ⟨⟨n0,Q⟩,X⟩ N σ w T' H' a.defers a' w'→K .normal a' w')→(Code.region id ops true).wpIn F n P K a w
theorem qsh_ {r:XRes}{k:XSt→XRes}{x:Ex×XSt}(h:bindX r k=some x):(∃ s,r=some (.normal,s)∧k s=some x)∨(x.1 ≠ .normal∧r=some x):=by
 obtain⟨⟨e,s⟩,hr,h⟩:=oS h
 cases e with
 | normal=>exact .inl ⟨s,hr,h⟩
 | exit i=>
  have h:r=some x:=h
  rw[hr] at h
  obtain rfl:=oI h
  exact .inr ⟨(fun h=>by cases h),hr⟩
 | ret=>
  have h:r=some x:=h
  rw[hr] at h
  obtain rfl:=oI h
  exact .inr ⟨(fun h=>by cases h),hr⟩
theorem qu5_ (H:AH)(l:Nat)(r:ALoop)(st:LoopState)(p:Option Code):(H.setL l r st p).low≤H.low:=Nat.min_le_left _ _
theorem goRF_low {call:CallT}{ih:Code→XSt→XRes}(hih:∀ c s x,ih c s=some x→x.2.2.2.low≤s.2.2.low){N:Nat}{f:Operand}{ps:Array Tmp}{as bd:Code}{T:Tr Value}{D:List DItem}{df:Nat}{H:AH}{x:Ex×XSt}(h:goRF call ih N f ps as bd T D df H=some x):x.2.2.2.low≤H.low:=by
 obtain⟨_,h⟩:=sel_none h
 obtain⟨H3,h3,h⟩:=oS h
 have l3:H3.low≤H.low:=by
  obtain⟨p,_,h3⟩:=oS h3
  split at h3
  ·obtain⟨r,_,h3⟩:=oS h3
   obtain rfl:=oI h3
   exact Nat.min_le_left _ _
  ·cases h3
 obtain⟨r,_,h⟩:=oS h
 obtain⟨_,h⟩:=sel_none' h
 cases hp:r.pend with
 | none=>
  rw[hp] at h
  obtain rfl:=oI h
  exact Nat.le_trans (qu5_ _ _ _ _ _) l3
 | some c=>
  rw[hp] at h
  exact Nat.le_trans (hih _ _ _ h) (Nat.le_trans (qu5_ _ _ _ _ _) l3)
theorem qyz_ {rd:RegT}(hrd:RdLow rd){P:Program}{call:CallT}{rnd:Option Nat}{N:Nat}:∀ (n:Nat) (c:Code) (s:XSt) (x:Ex×XSt),exec rd P call rnd N n c s=some x→x.2.2.2.low≤s.2.2.low:=by
 intro n
 induction n with
 | zero=>intro c s x h; cases h
 | succ n ih=>
  intro c s x h
  cases c with
  | skip=>obtain rfl:=oI h; exact Nat.le_refl _
  | label l=>obtain rfl:=oI h; exact Nat.le_refl _
  | ret=>obtain rfl:=oI h; exact Nat.le_refl _
  | exit i=>obtain rfl:=oI h; exact Nat.le_refl _
  | scope b=>
   rw[exec_scope] at h
   exact ih _ _ _ h
  | goto l=>cases h
  | refuse y=>cases h
  | region id ops d=>
   rw[q0m_] at h
   obtain⟨r,hr,h⟩:=oS h
   obtain rfl:=oI h
   rcases qa_ hr with⟨_,hr⟩ | ⟨_,hr⟩
   ·exact hrd _ _ _ _ _ _ _ hr
   ·exact qnc_ (sel_none hr).2
  | seq a b=>
   rw[exec_seq] at h
   rcases qsh_ h with⟨s1,h1,h2⟩ | ⟨_,h1⟩
   ·exact Nat.le_trans (ih _ _ _ h2) (ih _ _ _ h1)
   ·exact ih _ _ _ h1
  | loop b=>
   rw[exec_loop] at h
   rcases qsh_ h with⟨s1,h1,h2⟩ | ⟨_,h1⟩
   ·exact Nat.le_trans (ih _ _ _ h2) (ih _ _ _ h1)
   ·exact ih _ _ _ h1
  | cond c a b=>
   rw[exec_cond] at h
   obtain⟨_,h⟩:=sel_none h
   obtain⟨g,_,h⟩:=oS h
   cases g
   ·exact ih _ _ _ h
   ·exact ih _ _ _ h
  | block i b=>
   rw[exec_block] at h
   obtain⟨⟨e,s1⟩,h1,h⟩:=oS h
   have l1:=ih _ _ _ h1
   cases e with
   | normal=>
    have h:exec rd P call rnd N n b s=some x:=h
    rw[h1] at h
    obtain rfl:=oI h; exact l1
   | ret=>
    have h:exec rd P call rnd N n b s=some x:=h
    rw[h1] at h
    obtain rfl:=oI h; exact l1
   | exit j=>
    have h:sel (Nat.beq j i) (some (.normal,s1)) (exec rd P call rnd N n b s)=some x:=h
    rcases qa_ h with⟨_,h⟩ | ⟨_,h⟩
    ·obtain rfl:=oI h; exact l1
    ·rw[h1] at h
     obtain rfl:=oI h; exact l1
  | rangeFunc f ps as bd=>
   rw[qyy_] at h
   cases rnd with
   | none=>
    have h:goRF call (exec rd P call none N n) N f ps as bd s.1 (.mark s.2.2.next::s.2.1) s.2.2.next (s.2.2.push (.marks true))=some x:=h
    have q:=goRF_low (fun c s x h=>ih c s x h) h
    exact q
   | some l=>
    obtain⟨r,_,h⟩:=oS h
    exact goRF_low (fun c s x h=>ih c s x h) h
theorem CodeAt.trans {N:Nat}{n0:Bs}{σ σ₁:Ren}{w w₁:World}{low:Nat}{x:Ex×XSt}{e:Exit}{a':Act}{w':World}(st:Step n0 σ w low σ₁ w₁)(h:CodeAt n0 N σ₁ w₁ x e a' w')(hl:x.2.2.2.low≤low):CodeAt n0 N σ w x e a' w':=by
 obtain⟨h1,σ',h2,h3,h4,h5⟩:=h
 exact⟨h1,σ',h2,h3,h4,st.trans h5 hl⟩
def CodeOK (P:Program)(n0:Bs)(rnd:Option Nat)(N:Nat)(f:Code→XSt→XRes):Prop:=
 ∀ (c:Code) (s:XSt) (x:Ex×XSt),f c s=some x→∀ (F:Fence) (n:Nat) (σ:Ren) (w:World) (a:Act),WideF F→RndR σ rnd F.round→TR σ N s.1 a.tmps→DR σ s.2.1 a.defers→HR n0 σ s.2.2 w→c.wpIn F n P (CodeAt n0 N σ w x) a w
theorem goRF_ok {P:Program}{N:Nat}{n0:Bs}{call:CallT}(hcall:qn1_ P n0.n.n call){rnd:Option Nat}{ih:Code→XSt→XRes}(hih:CodeOK P n0 rnd N ih)(hlow:∀ c s x,ih c s=some x→x.2.2.2.low≤s.2.2.low)
  {f:Operand} {ps:Array Tmp} {as bd:Code} {T:Tr Value} {D:List DItem} {df:Nat} {H:AH} {x:Ex×XSt} (h:goRF call ih N f ps as bd T D df H=some x) {F:Fence} {n:Nat} {σ:Ren} {w:World} {a:Act} (hF:WideF F) (hrnd:RndR σ rnd F.round)
  {mark:List Deferred} (hT:TR σ N T a.tmps) (hD:DR σ D (mark++a.defers)) (hr:HR n0 σ H w) {dc:Nat} (hdf:σ df=some (dc,0,0)) (fn:FuncId) :
  ∃ (d:Deferred) (w₁':World) (g:FuncId) (args:Array Value) (w₂:World),
   (resolve a.eval (rangeCall f w.heap.size) 0).run P (w.alloc (.loop { state:=.ready,pending:=none,fn:=fn,tmps:=a.tmps,params:=ps,assign:=as,body:=bd,defers:=dc }))=.ok d w₁' ∧
   (∀ f',Target.leads P w₁' d.target d.args=some f'→F.fn f')∧(invoke d.target d.args).run P w₁'=.ok (.enter g args) w₂∧(F.depth.isSome=true→1≤n) ∧
   CallsIn F (n-1) P g args w₂ (rangePost F n P w.heap.size (CodeAt n0 N σ w x) { a with defers:=mark++a.defers }):=by
 obtain⟨hof,h⟩:=sel_none h
 obtain⟨H3,h3,h⟩:=oS h
 obtain⟨p,hp,h3⟩:=oS h3
 have hx:BR (σ.put H.next (w.heap.size,0,0)) 0 0 (some (.loop { state:=.ready,pending:=none,fn:=fn,tmps:=a.tmps,params:=ps,assign:=as,body:=bd,defers:=dc })) (.loop ⟨.ready,none,T,N,ps,as,bd,df⟩):=
  ⟨fn,a.tmps,dc,rfl,hT.mono (hr.ext_put _),hr.ext_put _ _ _ hdf,rfl,rfl⟩
 obtain⟨hr1,st1⟩:=hr.alloc hx
 generalize hσ₁:σ.put H.next (w.heap.size,0,0)=σ₁ at hr1 st1
 have hL:σ₁ H.next=some (w.heap.size,0,0):=by rw[←hσ₁]; exact Ren.put_self _ _ _
 generalize hw₁:w.alloc (.loop { state:=.ready,pending:=none,fn:=fn,tmps:=a.tmps,params:=ps,assign:=as,body:=bd,defers:=dc })=w₁ at hr1 st1 ⊢
 have hfv:=ev_ok (a:=a) (hT.mono st1.ext) hof
 have hyl:VRs σ₁ [.func (.yield H.next) #[] #[]] [.func (.yield w.heap.size) #[] #[]]:=.cons (VRs.func (.yield hL) .nil .nil) .nil
 obtain⟨fv,first,cap,e1,e2,e3⟩:=fnVal_vr hp hfv hyl
 rcases e3 with⟨g,rfl,e3⟩ | ⟨l,rfl,e3⟩
 case inr=>
  split at h3
  ·rename_i hq; rw[hq] at e2; cases e2
  ·cases h3
 split at h3
 case h_2=>cases h3
 rename_i g' hg'
 obtain⟨r,hr3,h3⟩:=oS h3
 obtain rfl:=oI h3
 rw[hg'] at e2
 cases e2
 have hargs:VRs σ₁ p.2 (first ++ #[Value.func (.yield w.heap.size) #[] #[]]++cap).toList:=by simpa using e3
 have hfn':FnR σ₁ p.1 (.func g):=by rw[hg']; exact FnR.func g
 obtain⟨⟨fd,f1,f2,f3⟩,hgo⟩:=hcall n0.n.Q n0.X p.1 p.2 _ r.1 r.2 hr3 σ₁ w₁ (.func g) _ hfn' hargs hr1.fresh'
 have f2':¬ fd.name = "runtime.NumGoroutine" := by simpa using f2
 have f3':¬ fd.body=none:=fun e=>by rw[e] at f3; cases f3
 refine⟨{ target:=.fn (.func g) cap,args:=first ++ #[Value.func (.yield w.heap.size) #[] #[]] },w₁,g,first ++ #[Value.func (.yield w.heap.size) #[] #[]]++cap,w₁,?_,fun f' _=>hF.fn f',?_,hF.depth,?_⟩
 ·have hcv:a.eval (.const (.func (.yield w.heap.size) #[] #[]))=.func (.yield w.heap.size) #[] #[]:=rfl
  simp[resolve,e1,Deferred.ofValue,hcv]
 ·simp[invoke,callFunc,program,Sem.run,Sem.run_bind,f1,f2',f3']
 ·refine CallsIn.mono (hF.calls (hgo (n-1))) ?_
  rintro e w₃ ⟨v',σ₃,rfl,q1,q2,q3⟩
  obtain⟨rl,hrl,h⟩:=oS h
  obtain⟨hb,h⟩:=sel_none' h
  have hr3':HR n0 σ₃ (r.2.back (H.push (.loop ⟨.ready,none,T,N,ps,as,bd,df⟩)).low) w₃:=q2.back _
  obtain⟨w₄,z1,z2,z3⟩:=endLoop_ok (P:=P) hr3' hrl (q3.ext _ _ hL) hb
  have stA:Step n0 σ w (Nat.min H.low r.2.low) σ₃ w₃:=(st1.lower (Nat.min_le_left _ _)).trans (q3.lower (Nat.min_le_right _ _)) (Nat.le_refl _)
  have stB:Step n0 σ w ((r.2.back (H.push (.loop ⟨.ready,none,T,N,ps,as,bd,df⟩)).low).setL H.next rl .exhausted rl.pend).low σ₃ w₄:=stA.trans z3 (qu5_ _ _ _ _ _)
  refine⟨rl.pend,w₄,z1,?_⟩
  cases hpd:rl.pend with
  | none=>
   rw[hpd] at h stB z2
   obtain rfl:=oI h
   exact⟨rfl,σ₃,hT.mono stB.ext,hD.mono stB.ext,z2,stB⟩
  | some c=>
   rw[hpd] at h stB z2
   have:=hih c _ x h F n σ₃ w₄ { a with defers:=mark++a.defers } hF (hrnd.mono stB.ext) (hT.mono stB.ext) (hD.mono stB.ext) z2
   exact wpIn_mono this fun e a' w' hq=>hq.trans stB (hlow _ _ _ h)
theorem exec_ok {P:Program}{N:Nat}{n0:Bs}{rd:RegT}{call:CallT}(hcall:qn1_ P n0.n.n call)(hrd:RdOK P n0.n.n rd)(hlow:RdLow rd){rnd:Option Nat}:∀ (k:Nat),CodeOK P n0 rnd N (exec rd P call rnd N k):=by
 intro k
 induction k using Nat.strongRecOn with
 | _ k ihs=>
 cases k with
 | zero=>intro c s x h; cases h
 | succ k=>
  have ih:=ihs k (Nat.lt_succ_self k)
  intro c s x h F n σ w a hF hrnd hT hD hr
  have hlk:=qyz_ (P:=P) (call:=call) (rnd:=rnd) (N:=N) hlow k
  cases c with
  | skip=>obtain rfl:=oI h; exact wpIn_skip ⟨rfl,σ,hT,hD,hr,Step.refl _ _ _ _⟩
  | label l=>obtain rfl:=oI h; exact wpIn_label ⟨rfl,σ,hT,hD,hr,Step.refl _ _ _ _⟩
  | ret=>obtain rfl:=oI h; exact wpIn_ret ⟨rfl,σ,hT,hD,hr,Step.refl _ _ _ _⟩
  | exit i=>obtain rfl:=oI h; exact wpIn_exit ⟨rfl,σ,hT,hD,hr,Step.refl _ _ _ _⟩
  | scope b=>
   rw[exec_scope] at h
   refine qyx_ ?_ (ih b s x h F n σ w a hF hrnd hT hD hr)
   intro l a' w' hq
   have he:=hq.1
   cases hx1:x.1<;>rw[hx1] at he<;>cases he
  | goto l=>cases h
  | refuse y=>cases h
  | region id ops d=>
   rw[q0m_] at h
   obtain⟨r,hr1,h⟩:=oS h
   obtain rfl:=oI h
   have post:∀ a' w',At n0 N σ w r.1 r.2 a.defers a' w'→CodeAt n0 N σ w (.normal,(r.1,s.2.1,r.2)) .normal a' w':=by
    rintro a' w' ⟨σ',h1,h2,h3,h4⟩
    exact⟨rfl,σ',h1,by rw[h2]; exact hD.mono h4.ext,h3,h4⟩
   rcases qa_ hr1 with⟨rfl,hr1⟩ | ⟨rfl,hr1⟩
   ·exact hrd n0.n.Q n0.X call hcall F hF n N id ops _ _ _ _ σ w a hr1 hT hr _ post
   ·exact regSeq_ok hcall hF hr1 hT hr post
  | seq b c=>
   rw[exec_seq] at h
   rcases qsh_ h with⟨s1,h1,h2⟩ | ⟨hne,h1⟩
   ·refine wpIn_seq (wpIn_mono (ih b s _ h1 F n σ w a hF hrnd hT hD hr) ?_)
    rintro e a' w' ⟨rfl,σ',q1,q2,q3,q4⟩
    exact wpIn_mono (ih c s1 x h2 F n σ' w' a' hF (hrnd.mono q4.ext) q1 q2 q3) fun e a'' w'' hq=>hq.trans q4 (hlk _ _ _ h2)
   ·refine wpIn_seq (wpIn_mono (ih b s _ h1 F n σ w a hF hrnd hT hD hr) ?_)
    rintro e a' w' hq
    have he:e ≠ .normal:=by
     rw[hq.1]; intro hx
     cases hx1:x.1<;>rw[hx1] at hx hne<;>first | exact hne rfl | cases hx
    cases e<;>first | exact absurd rfl he | exact hq
  | loop b=>
   refine wpIn_loop_ghost (fun j a' w'=>j≤k+1∧∃ s' σ' low,exec rd P call rnd N j (.loop b) s'=some x∧TR σ' N s'.1 a'.tmps∧DR σ' s'.2.1 a'.defers∧HR n0 σ' s'.2.2 w'∧Step n0 σ w low σ' w'∧x.2.2.2.low≤low)
    (k+1) ⟨Nat.le_refl _,s,σ,x.2.2.2.low,h,hT,hD,hr,Step.refl _ _ _ _,Nat.le_refl _⟩ ?_
   rintro j a₁ w₁ ⟨hj,s',σ',low,h1,hT1,hD1,hr1,st1,hl1⟩
   cases j with
   | zero=>cases h1
   | succ j=>
    rw[exec_loop] at h1
    have ihj:=ihs j (by omega)
    have hlj:=qyz_ (P:=P) (call:=call) (rnd:=rnd) (N:=N) hlow j
    rcases qsh_ h1 with⟨s1,g1,g2⟩ | ⟨hne,g1⟩
    ·refine wpIn_mono (ihj b s' _ g1 F n σ' w₁ a₁ hF (hrnd.mono st1.ext) hT1 hD1 hr1) ?_
     rintro e a' w' ⟨rfl,σ'',q1,q2,q3,q4⟩
     have l2:x.2.2.2.low≤s1.2.2.low:=hlj _ _ _ g2
     exact⟨j,Nat.lt_succ_self j,by omega,s1,σ'',x.2.2.2.low,g2,q1,q2,q3,(st1.lower hl1).trans (q4.lower l2) (Nat.le_refl _),Nat.le_refl _⟩
    ·refine wpIn_mono (ihj b s' _ g1 F n σ' w₁ a₁ hF (hrnd.mono st1.ext) hT1 hD1 hr1) ?_
     rintro e a' w' hq
     have he:e ≠ .normal:=by
      rw[hq.1]; intro hx
      cases hx1:x.1<;>rw[hx1] at hx hne<;>first | exact hne rfl | cases hx
     have hq':=hq.trans st1 hl1
     cases e<;>first | exact absurd rfl he | exact hq'
  | cond c b d=>
   rw[exec_cond] at h
   obtain⟨hc,h⟩:=sel_none h
   obtain⟨g,hg,h⟩:=oS h
   have hv:=ev_ok (a:=a) hT hc
   rw[asB_eq hg] at hv
   generalize hcv:a.eval c=cv at hv
   cases hv
   refine wpIn_cond hcv ?_
   cases g
   ·exact ih d s x h F n σ w a hF hrnd hT hD hr
   ·exact ih b s x h F n σ w a hF hrnd hT hD hr
  | block i b=>
   rw[exec_block] at h
   obtain⟨⟨e,s1⟩,h1,h⟩:=oS h
   have h1':=ih b s _ h1 F n σ w a hF hrnd hT hD hr
   refine wpIn_block (wpIn_mono h1' ?_)
   rintro e' a' w' ⟨rfl,hq⟩
   cases e with
   | normal=>
    have h:exec rd P call rnd N k b s=some x:=h
    rw[h1] at h
    obtain rfl:=oI h; exact⟨rfl,hq⟩
   | ret=>
    have h:exec rd P call rnd N k b s=some x:=h
    rw[h1] at h
    obtain rfl:=oI h; exact⟨rfl,hq⟩
   | exit j=>
    have h:sel (Nat.beq j i) (some (.normal,s1)) (exec rd P call rnd N k b s)=some x:=h
    show (if j=i then _ else _)
    rcases qa_ h with⟨hji,h⟩ | ⟨hji,h⟩
    ·obtain rfl:=oI h
     rw[if_pos (nB hji)]
     exact⟨rfl,hq⟩
    ·rw[h1] at h
     obtain rfl:=oI h
     rw[if_neg (fun e=>by subst e; rw[Nat.beq_refl] at hji; cases hji)]
     exact⟨rfl,hq⟩
  | rangeFunc f ps as bd=>
   rw[qyy_] at h
   refine wpIn_rangeFunc fun fn hfn=>?_
   cases rnd with
   | none=>
    have h:goRF call (exec rd P call none N k) N f ps as bd s.1 (.mark s.2.2.next::s.2.1) s.2.2.next (s.2.2.push (.marks true))=some x:=h
    have hro:F.round=none:=hrnd
    have hx:BR (σ.put s.2.2.next (w.heap.size,0,0)) 0 0 (some (.deferred (some []))) (.marks true):=⟨rfl,rfl,rfl⟩
    obtain⟨hr1,st1⟩:=hr.alloc hx
    have hL:(σ.put s.2.2.next (w.heap.size,0,0)) s.2.2.next=some (w.heap.size,0,0):=Ren.put_self _ _ _
    generalize σ.put s.2.2.next (w.heap.size,0,0)=σ₁ at hr1 st1 hL
    obtain⟨d,w₁',g,args,w₂,z1,z2,z3,z4,z5⟩:=goRF_ok hcall ih hlk h (n:=n) hF (hrnd.mono st1.ext) (a:=a) (mark:=[{ target:=.collected w.heap.size,args:=#[] }]) (hT.mono st1.ext) (.cons hL (hD.mono st1.ext)) hr1 hL fn
    refine⟨_,[{ target:=.collected w.heap.size,args:=#[] }],_,d,w₁',g,args,w₂,?_,z1,z2,z3,z4,CallsIn.mono z5 ?_⟩
    ·rw[hro]; simp[Instr.enterLoop,newObj,Sem.run,Sem.run_bind,World.alloc_eq]
    ·have hlx:=goRF_low hlk h
     have hlx:x.2.2.2.low≤s.2.2.low:=hlx
     intro e w₃ hq
     cases e with
     | returned v=>
      obtain⟨jump,w₄,e1,e2⟩:=hq
      refine⟨jump,w₄,e1,?_⟩
      cases jump with
      | none=>exact CodeAt.trans st1 e2 hlx
      | some c=>exact wpIn_mono e2 fun e a' w' hq=>hq.trans st1 hlx
     | panicked ch=>exact CodeAt.trans st1 hq hlx
     | outgrown=>
      obtain⟨a',w',hq⟩:=hq
      exact⟨a',w',hq.trans st1 hlx⟩
   | some l=>
    obtain⟨rl,hrl,h⟩:=oS h
    obtain⟨c,hro,hlc⟩:=hrnd
    obtain⟨q,hq1,hq2,_,_⟩:=hr.loop hrl hlc
    obtain⟨d,w₁',g,args,w₂,z1,z2,z3,z4,z5⟩:=goRF_ok hcall ih hlk h (n:=n) hF ⟨c,hro,hlc⟩ (a:=a) (mark:=[]) hT (by simpa using hD) hr hq2.defers fn
    refine⟨_,_,_,d,w₁',g,args,w₂,?_,z1,z2,z3,z4,z5⟩
    rw[hro]; simp[Instr.enterLoop,newObj,Sem.run,Sem.run_bind,World.alloc_eq,qnd_ hq1]
end Go.Proofs.YthlikofobjhcoaaGreat.Ax
namespace Go.Proofs.YthlikofobjhcoaaGreat.Ax
open Go.RowKit
variable [Tabs]
def isOpen (x:ABlk):Bool:=
 match x with
 | .marks b=>b
 | _=>false
noncomputable def closeM (D:List DItem):AH→Option AH:=
 @List.rec DItem (fun _=>AH→Option AH) (fun H=>some H) (fun d _ ih H=>@DItem.rec (fun _=>Option AH) (fun b=>oc (H.blocks.get b) none fun x=>sel (isOpen x) (ih (H.setB b (.marks false))) none) (fun _ _=>none) d) D
theorem q0n_ (b:Nat)(D:List DItem)(H:AH):closeM (.mark b::D) H=oc (H.blocks.get b) none fun x=>sel (isOpen x) (closeM D (H.setB b (.marks false))) none:=rfl
theorem q0o_ (g:Nat)(c:List Value)(D:List DItem)(H:AH):closeM (.call g c::D) H=none:=rfl
theorem isOpen_eq {x:ABlk}(h:isOpen x=true):x=.marks true:=by
 unfold isOpen at h
 split at h
 ·subst h; rfl
 ·cases h
theorem qvp_:∀ {D:List DItem} {H H':AH},closeM D H=some H'→H'.low≤H.low
 | [],H,H',h=>by obtain rfl:=oI h; exact Nat.le_refl _
 | .call g c::D,H,H',h=>by rw[q0o_] at h; cases h
 | .mark b::D,H,H',h=>by
  rw[q0n_] at h
  obtain⟨x,_,h⟩:=oS h
  obtain⟨_,h⟩:=sel_none h
  exact Nat.le_trans (qvp_ h) (Nat.min_le_left _ _)
noncomputable def res1 (P:Program)(T:Tr Value)(H:AH)(r:ResultVar):Option Value:=
 match r with
 | .tmp i=>some (tget T i)
 | .cell a t=>oc (qpj_ (tget T a)) none fun p=>loadB P t H p.1 p.2
noncomputable def resL (P:Program)(T:Tr Value)(H:AH)(l:List ResultVar):Option (List Value):=
 @List.rec ResultVar (fun _=>Option (List Value)) (some []) (fun r _ ih=>oc (res1 P T H r) none fun v=>oc ih none fun l=>some (v::l)) l
theorem resL_cons (P:Program)(T:Tr Value)(H:AH)(r:ResultVar)(l:List ResultVar):resL P T H (r::l)=oc (res1 P T H r) none fun v=>oc (resL P T H l) none fun l=>some (v::l):=rfl
def wrapR (l:List Value):Value:=
 match l with
 | [v]=>v
 | l=>.tuple ⟨l⟩
def resOne (ts:Array Value)(r:ResultVar):Sem Value:=
 match r with
 | .tmp t=>pure (ts.getD t undef)
 | .cell a t=>do loadVar t (←asAddr (ts.getD a undef))
theorem res1_ok {P:Program}{N:Nat}{n0:Bs}{σ:Ren}{H:AH}{w:World}(hr:HR n0 σ H w){T:Tr Value}{ts:Array Value}(hT:TR σ N T ts){r:ResultVar}{v:Value}(h:res1 P T H r=some v):∃ v',VR σ v v'∧(resOne ts r).run P w=.ok v' w:=by
 cases r with
 | tmp i=>
  obtain rfl:=oI h
  exact⟨_,hT.slot i,rfl⟩
 | cell a t=>
  obtain⟨p,hp,h⟩:=oS h
  obtain⟨c,d,m,hs,e⟩:=qqh_ hp (hT.slot a)
  obtain⟨v',h1,h2⟩:=qyb_ (P:=P) hr h hs
  refine⟨v',h1,?_⟩
  unfold resOne
  simp only[e,asAddr,Sem.run_bind,Sem.run_pure,Result.andThen_ok,h2]
theorem resL_ok {P:Program}{N:Nat}{n0:Bs}{σ:Ren}{H:AH}{w:World}(hr:HR n0 σ H w){T:Tr Value}{ts:Array Value}(hT:TR σ N T ts):∀ {l:List ResultVar} {vs:List Value},resL P T H l=some vs→∃ vs',VRs σ vs vs'∧(l.mapM (resOne ts)).run P w=.ok vs' w
 | [],vs,h=>by
  obtain rfl:=oI h
  exact⟨[],.nil,by simp⟩
 | r::l,vs,h=>by
  rw[resL_cons] at h
  obtain⟨v,hv,h⟩:=oS h
  obtain⟨us,hus,h⟩:=oS h
  obtain rfl:=oI h
  obtain⟨v',h1,h2⟩:=res1_ok (P:=P) hr hT hv
  obtain⟨us',h3,h4⟩:=resL_ok (P:=P) hr hT hus
  exact⟨v' :: us',.cons h1 h3,by simp[List.mapM_cons,Sem.run_bind,h2,h4]⟩
theorem qy0_ {P:Program}{N:Nat}{n0:Bs}{σ:Ren}{H:AH}{w:World}(hr:HR n0 σ H w){T:Tr Value}{ts:Array Value}(hT:TR σ N T ts){fd:Func}{vs:List Value}(h:resL P T H fd.results.toList=some vs):∃ v',VR σ (wrapR vs) v'∧(results fd ts).run P w=.ok v' w:=by
 obtain⟨vs',h1,h2⟩:=resL_ok (P:=P) hr hT h
 have e:results fd ts=(do let vs ←fd.results.toList.mapM (resOne ts); pure (if h:vs.toArray.size=1 then vs.toArray[0] else .tuple vs.toArray)):=by
  unfold results
  rw[Array.mapM_eq_mapM_toList]
  simp only[map_eq_pure_bind,bind_assoc,pure_bind]
  rfl
 rw[e]
 simp only[Sem.run_bind,h2,Result.andThen_ok,Sem.run_pure]
 refine⟨_,?_,rfl⟩
 cases h1 with
 | nil=>exact VRs.tuple .nil
 | cons hv hl=>
  cases hl with
  | nil=>simpa [wrapR] using hv
  | cons hv2 hl2=>simpa [wrapR] using VRs.tuple (.cons hv (.cons hv2 hl2))
def exDone (e:Ex):Bool:=
 match e with
 | .exit _=>false
 | _=>true
noncomputable def leaveF (P:Program)(fd:Func)(x:Ex×XSt):VRes:=
 sel (exDone x.1) (oc (closeM x.2.2.1 x.2.2.2) none fun H=>oc (resL P x.2.1 H fd.results.toList) none fun l=>some (wrapR l,H)) none
def fuel:Nat:=1000000000
noncomputable def bodyF (rd:RegT)(P:Program)(ih:CallT)(fd:Func)(args:List Value)(H:AH):VRes:=
 oc fd.body none fun c=>sel (Nat.ble args.length fd.ntmps && !(fd.name == "runtime.NumGoroutine")) (oc (exec rd P ih none fd.ntmps fuel c (layT args,[],H)) none fun x=>leaveF P fd x) none
def qo5_ (e:Ex):Option Code:=
 match e with
 | .normal=>none
 | .ret=>some .ret
 | .exit i=>some (.exit i)
noncomputable def setPs (N:Nat)(ps:List Tmp):List Value→Tr Value→Option (Tr Value):=
 @List.rec Tmp (fun _=>List Value→Tr Value→Option (Tr Value)) (fun vs T=>some T) (fun t _ ih vs T=>match vs with
  | []=>none
  | v::vs=>sel (Nat.blt t N) (ih vs (T.set t v)) none) ps
theorem setPs_cons (N:Nat)(t:Tmp)(ps:List Tmp)(v:Value)(vs:List Value)(T:Tr Value):setPs N (t::ps) (v::vs) T=sel (Nat.blt t N) (setPs N ps vs (T.set t v)) none:=rfl
noncomputable def endF (l:Nat)(x:Ex×XSt):VRes:=oc (qwm_ x.2.2.2 l) none fun r=>some (.bool (qo5_ x.1).isNone,x.2.2.2.setL l r (if (qo5_ x.1).isNone then .ready else .done) (qo5_ x.1))
def exNormal (e:Ex):Bool:=
 match e with
 | .normal=>true
 | _=>false
noncomputable def roundF (rd:RegT)(P:Program)(ih:CallT)(l:Nat)(args:List Value)(H:AH):VRes:=
 oc (qwm_ H l) none fun r=>sel (Nat.beq args.length r.params.size) (oc (setPs r.N r.params.toList args r.T) none fun T=>oc (exec rd P ih (some l) r.N fuel r.assign (T,[],H)) none fun x=>
  sel (exNormal x.1) (oc (qwm_ x.2.2.2 l) none fun r2=>sel (stReady r2.st) (oc (exec rd P ih (some l) r.N fuel r.body (x.2.1,x.2.2.1,x.2.2.2.setL l r2 .busy r2.pend)) none fun y=>endF l y) none) none) none
noncomputable def callGo (rd:RegT)(P:Program)(ih:CallT)(fn:Fn)(args:List Value)(H:AH):VRes:=
 match fn with
 | .func f=>oc (P.funcs[f]?) none fun fd=>bodyF rd P ih fd args H
 | .yield l=>roundF rd P ih l args H
 | _=>none
noncomputable def callF (rd:RegT)(P:Program)(n:Nat):CallT:=@Nat.rec (fun _=>CallT) (fun _ _ _=>none) (fun _ ih=>callGo rd P ih) n
theorem q1m_ {σ:Ren}{l:List Value}{args:Array Value}(h:VRs σ l args.toList){N:Nat}(hN:l.length≤N):TR σ N (layT l) (args++Array.replicate (N-args.size) undef):=by
 have hs:args.size=l.length:=by have:=h.length; simpa using this.symm
 refine⟨by simp; omega,fun i=>?_⟩
 unfold tget
 rw[qfu_]
 by_cases hi:i<l.length
 ·obtain⟨v',h1,h2⟩:=h.get i l[i] (by simp[hi])
  have h1':args[i]?=some v':=by simpa using h1
  have hlt:i<args.size:=by omega
  simp only[List.getElem?_eq_getElem hi,oc_some]
  have:(args++Array.replicate (N-args.size) undef).getD i undef=v':=by
   simp only[Array.getD_eq_getD_getElem?,Array.getElem?_append_left hlt,h1']
   rfl
  rw[this]
  exact h2
 ·simp only[List.getElem?_eq_none (Nat.le_of_not_lt hi),oc_none]
  have:(args++Array.replicate (N-args.size) undef).getD i undef=undef:=by
   simp only[Array.getD_eq_getD_getElem?]
   rw[Array.getElem?_append_right (by omega)]
   by_cases h2:i-args.size<N-args.size
   ·simp[h2]
   ·simp[h2]
  rw[this]
  exact qo4_ σ
theorem leaves_ok {P:Program}{F:Fence}{n N:Nat}{n0:Bs}{fd:Func}{T:Tr Value}{ts:Array Value}{vs:List Value}{R:Ending→World→Prop}:∀ {D:List DItem} {ds:List Deferred} {σ:Ren} {H H':AH} {w:World},closeM D H=some H'→DR σ D ds→TR σ N T ts→HR n0 σ H w→resL P T H' fd.results.toList=some vs →
  (∀ v' w',VR σ (wrapR vs) v'→HR n0 σ H' w'→Step n0 σ w H'.low σ w'→R (.returned v') w')→LeavesInM F n P fd ts R ds .returning w
 | [],ds,σ,H,H',w,hc,hD,hT,hr,hres,hR=>by
  obtain rfl:=oI hc
  cases hD
  obtain⟨v',h1,h2⟩:=qy0_ (P:=P) hr hT hres
  exact⟨v',h2,hR v' w h1 hr (Step.refl _ _ _ _)⟩
 | .call g c::D,ds,σ,H,H',w,hc,hD,hT,hr,hres,hR=>by rw[q0o_] at hc; cases hc
 | .mark b::D,ds,σ,H,H',w,hc,hD,hT,hr,hres,hR=>by
  rw[q0n_] at hc
  obtain⟨x,hx,hc1⟩:=oS hc
  clear hc
  obtain⟨ho,hc2⟩:=sel_none hc1
  clear hc1
  obtain rfl:=isOpen_eq ho
  cases hD with
  | @cons _ c _ ds hb hl=>
   obtain⟨c',d',m',hs',hn,hB⟩:=hr.blk b _ hx
   rw[hb] at hs'
   injection hs' with hs'
   injection hs' with e1 hs'
   injection hs' with e2 e3
   subst e1 e2 e3
   have hobj:w.heap[c]?=some (.deferred (some [])):=by simpa using hB.1
   obtain⟨g1,g2⟩:=hr.setObj hx hb (o:=.deferred none) (x:=.marks false) ⟨rfl,rfl,rfl⟩
   refine⟨(fun h=>by cases h),.inl ⟨c,qhj_ w c (.deferred none),rfl,?_,?_⟩⟩
   ·simp[Instr.takeDeferred,getObj,setObj,Sem.run,Sem.run_bind,hobj,qhj_]
   ·exact leaves_ok hc2 hl hT g1 hres fun v' w' q1 q2 q3=>hR v' w' q1 q2 (g2.trans q3 (qvp_ hc2))
theorem setPs_ok {σ:Ren}{N:Nat}:∀ {ps:List Tmp} {vs vs':List Value} {T T':Tr Value} {ts:Array Value},setPs N ps vs T=some T'→VRs σ vs vs'→TR σ N T ts→TR σ N T' ((ps.zip vs').foldl (fun ts (x:Tmp×Value)=>ts.setIfInBounds x.1 x.2) ts)
 | [],vs,vs',T,T',ts,h,hv,hT=>by
  obtain rfl:=oI h
  simpa using hT
 | t::ps,[],vs',T,T',ts,h,hv,hT=>by cases h
 | t::ps,v::vs,vs',T,T',ts,h,hv,hT=>by
  rw[setPs_cons] at h
  obtain⟨ht,h⟩:=sel_none h
  cases hv with
  | cons h1 h2=>
   simp only[List.zip_cons_cons,List.foldl_cons]
   exact setPs_ok h h2 (hT.set h1 (qfr_ ht))
theorem q1n_ {P:Program}{n0:Nat}{rd:RegT}(hrd:RdOK P n0 rd)(hlow:RdLow rd){call:CallT}(ih:qn1_ P n0 call):qn1_ P n0 (callGo rd P call):=by
  intro Q X fn args H v H' h σ w fn' args' hfn hargs hr
  unfold callGo at h
  cases hfn with
  | method s=>cases h
  | func f=>
   obtain⟨fd,hfd,h⟩:=oS h
   obtain⟨c,hc,h⟩:=oS h
   obtain⟨hb,h⟩:=sel_none h
   obtain⟨x,hx,h⟩:=oS h
   obtain⟨hd,h⟩:=sel_none h
   obtain⟨H2,hcl,h⟩:=oS h
   obtain⟨vs,hvs,h⟩:=oS h
   obtain⟨rfl,rfl⟩:=pI (oI h)
   simp only[bA,Bool.not_eq_true'] at hb
   refine⟨⟨fd,hfd,hb.2,by rw[hc]; rfl⟩,fun n=>?_⟩
   have hN:=qd1_ hb.1
   refine callsIn_of_wp_marks hfd hc trivial ?_
   have hex:=exec_ok (n0:=⟨⟨n0,Q⟩,X⟩) ih hrd hlow fuel c _ x hx Fence.wide n σ w { tmps:=args' ++ Array.replicate (fd.ntmps-args'.size) undef,defers:=[] } ⟨none,rfl⟩ rfl (q1m_ hargs hN) .nil hr
   refine wpIn_mono hex ?_
   rintro e a' w' ⟨rfl,σ',q1,q2,q3,q4⟩
   have main:LeavesInM Fence.wide n P fd a'.tmps (RetOK ⟨⟨n0,Q⟩,X⟩ σ w (wrapR vs) H2) a'.defers .returning w':=
    leaves_ok hcl q2 q1 q3 hvs fun v' w'' z1 z2 z3=>⟨v',σ',rfl,z1,z2,q4.trans z3 (qvp_ hcl)⟩
   obtain⟨e,s⟩:=x
   cases e with
   | normal=>exact main
   | ret=>exact main
   | exit i=>cases hd
  | @yield l c hl=>
   obtain⟨r,hlr,h⟩:=oS h
   obtain⟨hlen,h⟩:=sel_none h
   obtain⟨T,hT,h⟩:=oS h
   obtain⟨x,hx,h⟩:=oS h
   obtain⟨hnx,h⟩:=sel_none h
   obtain⟨r2,hr2,h⟩:=oS h
   obtain⟨hst,h⟩:=sel_none h
   obtain⟨y,hy,h⟩:=oS h
   obtain⟨r3,hr3,h⟩:=oS h
   obtain⟨rfl,rfl⟩:=pI (oI h)
   obtain⟨q,hq1,hq2,_,_⟩:=hr.loop hlr hl
   have hlen:=nB hlen
   have hsz:args'.size=q.params.size:=by rw[hq2.params,←hlen]; have:=hargs.length; simpa using this.symm
   refine⟨q.fn,(q.params.zip args').foldl (fun ts (x:Tmp×Value)=>ts.setIfInBounds x.1 x.2) q.tmps,q.assign,q.body,?_,fun n=>?_⟩
   ·simp[Instr.yield,Sem.run_bind,qnd_ hq1,hsz]
   ·have hTR:TR σ r.N T ((q.params.zip args').foldl (fun ts (x:Tmp×Value)=>ts.setIfInBounds x.1 x.2) q.tmps):=by
     have:=setPs_ok hT hargs hq2.tmps
     rw[←hq2.params] at this
     rwa [←Array.foldl_toList,Array.toList_zip]
    refine roundIn_of_wpIn trivial ?_
    have hF:WideF (Fence.wide.inRound c):=⟨some c,rfl⟩
    have h1:=exec_ok (n0:=⟨⟨n0,Q⟩,X⟩) ih hrd hlow fuel r.assign _ x hx (Fence.wide.inRound c) n σ w { tmps:=(q.params.zip args').foldl (fun ts (x:Tmp×Value)=>ts.setIfInBounds x.1 x.2) q.tmps,defers:=[] } hF ⟨c,rfl,hl⟩ hTR .nil hr
    rw[hq2.assign,hq2.body]
    refine wpIn_mono h1 ?_
    rintro e a₁ w₁ ⟨rfl,σ₁,q1,q2,q3,q4⟩
    obtain⟨ex,sx⟩:=x
    cases ex with
    | exit i=>cases hnx
    | ret=>cases hnx
    | normal=>
     obtain⟨w₂,b1,b2,b3⟩:=begin_ok (P:=P) q3 hr2 (q4.ext _ _ hl) hst
     refine⟨w₂,b1,?_⟩
     have h2:=exec_ok (n0:=⟨⟨n0,Q⟩,X⟩) ih hrd hlow fuel r.body _ y hy (Fence.wide.inRound c) n σ₁ w₂ a₁ hF ⟨c,rfl,q4.ext _ _ hl⟩ q1 q2 b2
     have ly:=qyz_ (P:=P) (call:=call) (rnd:=some l) (N:=r.N) hlow fuel _ _ _ hy
     refine wpIn_mono h2 ?_
     rintro e₂ a₂ w₃ ⟨rfl,σ₂,z1,z2,z3,z4⟩
     obtain⟨w₄,e1,e2,e3⟩:=end_ok (P:=P) z3 hr3 (z4.ext _ _ (q4.ext _ _ hl)) (qo5_ y.1)
     have stA:Step ⟨⟨n0,Q⟩,X⟩ σ w y.2.2.2.low σ₂ w₃:=((q4.trans b3 (qu5_ _ _ _ _ _)).lower ly).trans z4 (Nat.le_refl _)
     have fin:RetOK ⟨⟨n0,Q⟩,X⟩ σ w (.bool (qo5_ y.1).isNone) (y.2.2.2.setL l r3 (if (qo5_ y.1).isNone then .ready else .done) (qo5_ y.1)) (.returned (.bool (qo5_ y.1).isNone)) w₄:=
      ⟨_,σ₂,rfl,.bool _,e2,stA.trans e3 (qu5_ _ _ _ _ _)⟩
     obtain⟨ey,sy⟩:=y
     cases ey with
     | normal=>exact⟨_,w₄,e1,fin⟩
     | ret=>exact⟨_,w₄,e1,fin⟩
     | exit i=>exact⟨_,w₄,e1,fin⟩
theorem callF_ok {P:Program}{n0:Nat}{rd:RegT}(hrd:RdOK P n0 rd)(hlow:RdLow rd):∀ k,qn1_ P n0 (callF rd P k)
 | 0=>fun Q X fn args H v H' h=>by cases h
 | k+1=>q1n_ hrd hlow (callF_ok hrd hlow k)
end Go.Proofs.YthlikofobjhcoaaGreat.Ax
