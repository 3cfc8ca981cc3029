/-
 slices.Sorted(maps.Keys(m)), m's keys strings: in one step, by contracts of these two functions that are premises. Own work, plain lemmas.
-/
import Derived.Test.YthlikofobjhcoaaGreatAxX
import Derived.Sort.KeysCollected
import Derived.Lib.SlKeysI
import Derived.LoopNIn
import Derived.DefersIn
set_option linter.unusedSimpArgs false
set_option linter.unusedVariables false
set_option linter.unnecessarySimpa false
set_option linter.deprecated false
set_option linter.unusedSectionVars false
/-! slices.Sorted(maps.Keys(m)), m's keys strings: in one step, by contracts of these two functions that are premises. Own work, plain lemmas. -/
namespace Go.Proofs.YthlikofobjhcoaaGreat.Ax
open Go.RowKit
variable [Tabs]
open Go.Proofs (encStr)
structure SK where
 fk:FuncId
 fs:FuncId
 fi:FuncId
 kt:TypeId
 bt:TypeId
 z:Bool
def R0:Value→Option (DataW Unit×List MemPlace):=fun _=>some (.nil,[])
def KeysOK (P:Program)(s:SK):Prop:=
 ∀ (mb:Option Nat) (w:World),Calls P s.fk #[.map mb] w fun e w'=>e=.returned (.func (.func s.fi) #[] #[.pointer (some ⟨w.heap.size,0,none⟩)])∧w'=w.alloc (.cells #[.map mb] s.bt)
def SortedOK (P:Program)(s:SK):Prop:=
 ∀ (pb b nn:Nat) (D0:DataW Unit) (w:World),pb<w.heap.size→w.cell? ⟨pb,0,none⟩=some (.map (some b))→w.ownsMap P s.kt R0 b nn D0→Maps.size D0≤maxLen→Maps.size D0*16≤140737488355328 →
  Calls P s.fs #[.func (.func s.fi) #[] #[.pointer (some ⟨pb,0,none⟩)]] w fun e w'=>∃ (v:Value) (ss:List (List UInt8)),e=.returned v∧ss.Perm (strKeys D0) ∧
   w'.ownsRow w.heap.size s.kt 1 v ss.length ((ss.mergeSort leB).map encStr)∧(v=.slice none 0 0 ↔ ss=[])∧Below w.heap.size w w'
def SortedZ (P:Program)(s:SK):Prop:=
 ∀ (pb b nn:Nat) (D0:DataW Unit) (w:World),pb<w.heap.size→w.cell? ⟨pb,0,none⟩=some (.map (some b))→w.ownsMap P s.kt R0 b nn D0→Maps.size D0≤maxLen→Maps.size D0*8≤140737488355328 →
  Calls P s.fs #[.func (.func s.fi) #[] #[.pointer (some ⟨pb,0,none⟩)]] w fun e w'=>∃ (v:Value) (ss:List Int),e=.returned v∧ss.Perm (intKeys D0) ∧
   w'.ownsRow w.heap.size s.kt 1 v ss.length ((ss.mergeSort leI).map encZ)∧(v=.slice none 0 0 ↔ ss=[])∧Below w.heap.size w w'
noncomputable def liveF (P:Program)(f:FuncId):Bool:=oc (P.funcs[f]?) false fun fd=>!(fd.name == "runtime.NumGoroutine") && !(fd.body.isNone)
structure SKOK (P:Program) (s:SK):Prop where
 keys:KeysOK P s
 str:s.z=false→P.underlying s.kt=some .string
 sorted:s.z=false→SortedOK P s
 int:s.z=true→P.underlying s.kt=some (.int .i64)
 sortedZ:s.z=true→SortedZ P s
 live1:liveF P s.fk=true
 live2:liveF P s.fs=true
theorem liveF_go {P:Program}{f:FuncId}(h:liveF P f=true):∃ fd,P.funcs[f]?=some fd∧(fd.name == "runtime.NumGoroutine")=false∧fd.body.isNone=false:=by
 unfold liveF at h
 cases hf:P.funcs[f]? with
 | none=>rw[hf] at h; cases h
 | some fd=>
  rw[hf] at h
  have h:(!(fd.name == "runtime.NumGoroutine") && !(fd.body.isNone))=true:=h
  simp only[bA,Bool.not_eq_true'] at h
  exact⟨fd,rfl,h⟩
theorem MRs.keys {σ:Ren}{es es':List MapEntry}(h:MRs σ es es'):es'.map (·.key)=es.map (·.key):=by
 induction h with
 | nil=>rfl
 | cons hk _ _ ih=>simp[hk,ih]
theorem HR.late {n0:Bs}{σ:Ren}{H:AH}{w w':World}(hr:HR n0 σ H w)(hb:Below w.heap.size w w'){g m:Nat}(hg:w.heap.size≤g)(hlt:g<w'.heap.size){x:ABlk}(hx:BR (σ.put H.next (g,0,m)) 0 m (w'.heap[g]?) x) :
  HR n0 (σ.put H.next (g,0,m)) (H.push x) w'∧Step n0 σ w H.low (σ.put H.next (g,0,m)) w':=by
 have hext:=hr.ext_put (g,0,m)
 refine⟨⟨qoq_ hr.base hb.size (fun k hk=>hb.block k (Nat.lt_of_lt_of_le hk hr.base.1)),?_,?_,?_,?_,fun b hb=>⟨Nat.lt_succ_of_lt (hr.hol b hb).1,by rw[Ren.put_other _ _ (Nat.ne_of_lt (hr.hol b hb).1)]; exact (hr.hol b hb).2⟩,hr.frz.put _ _ hg hb.size fun c hc=>hb.block c hc⟩,⟨hext,hb.mono hr.base.1,?_,fun _ _ _ _ _ h=>h⟩⟩
 ·intro b y hy
  simp only[AH.push,Tr.get_set] at hy
  by_cases h:b=H.next
  ·subst h
   rw[if_pos rfl] at hy
   obtain rfl:=oI hy
   exact⟨g,0,m,Ren.put_self _ _ _,⟨Nat.le_trans hr.base.1 hg,fun h=>absurd (hr.base.2.1 g h) (Nat.not_lt.2 hg)⟩,hx⟩
  ·rw[if_neg h] at hy
   obtain⟨c,d,m',hs,hn,hB⟩:=hr.blk b y hy
   refine⟨c,d,m',hext _ _ hs,hn,?_⟩
   rw[hb.block c (hr.img b c d m' hs)]
   exact hB.mono hext
 ·intro b₁ b₂ x₁ x₂ c d₁ m₁ d₂ m₂ h1 h2 s1 s2
  simp only[AH.push,Tr.get_set] at h1 h2
  by_cases e1:b₁=H.next
  ·by_cases e2:b₂=H.next
   ·rw[e1,e2]
   ·rw[if_neg e2] at h2
    rw[Ren.put_other _ _ e2] at s2
    subst e1
    rw[Ren.put_self] at s1
    have:=hr.img b₂ c d₂ m₂ s2
    injection s1 with s1
    injection s1 with s1 _
    omega
  ·rw[if_neg e1] at h1
   rw[Ren.put_other _ _ e1] at s1
   by_cases e2:b₂=H.next
   ·subst e2
    rw[Ren.put_self] at s2
    have:=hr.img b₁ c d₁ m₁ s1
    injection s2 with s2
    injection s2 with s2 _
    omega
   ·rw[if_neg e2] at h2
    rw[Ren.put_other _ _ e2] at s2
    exact hr.inj b₁ b₂ x₁ x₂ c d₁ m₁ d₂ m₂ h1 h2 s1 s2
 ·intro b t ht
  by_cases e:b=H.next
  ·subst e; exact Nat.lt_succ_self _
  ·rw[Ren.put_other _ _ e] at ht
   exact Nat.lt_succ_of_lt (hr.dom b t ht)
 ·intro b c d m' hs
  by_cases e:b=H.next
  ·subst e
   rw[Ren.put_self] at hs
   injection hs with hs
   injection hs with hs _
   omega
  ·rw[Ren.put_other _ _ e] at hs
   exact Nat.lt_of_lt_of_le (hr.img b c d m' hs) hb.size
 ·intro c hc _
  refine⟨hb.block c hc,fun b d m' hs=>?_⟩
  by_cases e:b=H.next
  ·subst e
   rw[Ren.put_self] at hs
   injection hs with hs
   injection hs with hs _
   omega
  ·rwa [Ren.put_other _ _ e] at hs
noncomputable def skAll (L:List SK):CallT:=fun _ _ _=>none
def SKsOK (P:Program)(L:List SK):Prop:=True
theorem skAll_ok {P:Program}{L:List SK}(_:SKsOK P L)(n0:Nat):qn1_ P n0 (skAll L):=fun Q X fn args H v H' h=>by
 unfold skAll at h
 cases h
end Go.Proofs.YthlikofobjhcoaaGreat.Ax
namespace Go.Proofs.YthlikofobjhcoaaGreat.Ax
open Go.RowKit
variable [Tabs]
def Y:Value:=.chan none
def U:Value:=.tuple #[]
def T:Value:=.bool true
def F:Value:=.bool false
def I (n:Nat):Value:=.int .i64 (.ofNat n)
def M (n:Nat):Value:=.int .i64 (.negSucc n)
def A (b o:Nat):Value:=.pointer (some ⟨b,o,none⟩)
def S (b o n k:Nat):Value:=.slice (some ⟨b,o,none⟩) n k
inductive LB where
 | cells (e:TypeId) (l:List Value)
 | map (l:List MapEntry) (clock:Nat)
 | iter (m clock:Nat)
 | pair (e:TypeId) (l:List Value)
structure LBlk where
 num:Nat
 blk:LB
noncomputable def LB.lay (b:LB):ABlk:=
 match b with
 | .cells e l=>.cells (layT l) e
 | .map l c=>.map l c
 | .iter m c=>.iter m c
 | .pair e l=>.pair (layT l) e
noncomputable def subL (c:Tr Value):List Value→Nat→Bool
 | [],_=>true
 | v::l,i=>oc (c.get i) false (fun u=>veq u v)&&subL c l (Nat.succ i)
theorem subL_get {c:Tr Value}:∀ {l:List Value} {i:Nat},subL c l i=true→∀ j v,l[j]?=some v→c.get (i+j)=some v
 | [],i,_,j,v,hj=>by simp at hj
 | u::l,i,h,j,v,hj=>by
  simp only[subL,bA] at h
  cases j with
  | zero=>
   simp at hj
   subst hj
   cases hc:c.get i with
   | none=>rw[hc] at h; exact absurd h.1 Bool.false_ne_true
   | some x=>
    rw[hc] at h
    have e:x=u:=qy3_ h.1
    rw[e]
  | succ j=>
   have:=subL_get h.2 j v (by simpa using hj)
   rw[←this]
   congr 1
   omega
noncomputable def takeE (b:MapEntry):List MapEntry→Option (List MapEntry)
 | []=>none
 | a::l=>sel (veq a.key b.key&&veq a.val b.val) (some l) (oc (takeE b l) none fun k=>some (a::k))
noncomputable def entL:List MapEntry→List MapEntry→Bool
 | [],es=>nilE es
 | b::l,es=>oc (takeE b es) false fun es'=>entL l es'
where nilE:List MapEntry→Bool
 | []=>true
 | _=>false
theorem takeE_ok {b:MapEntry}:∀ {es es':List MapEntry},takeE b es=some es'→∃ a,a.key=b.key∧a.val=b.val∧es.Perm (a::es')
 | [],es',h=>by cases h
 | a::l,es',h=>by
  have h:sel (veq a.key b.key&&veq a.val b.val) (some l) (oc (takeE b l) none fun k=>some (a::k))=some es':=h
  rcases qa_ h with⟨h1,h2⟩ | ⟨_,h2⟩
  ·simp only[bA] at h1
   obtain rfl:=oI h2
   exact⟨a,qy3_ h1.1,qy3_ h1.2,.refl _⟩
  ·obtain⟨k,hk,h2⟩:=oS h2
   obtain rfl:=oI h2
   obtain⟨x,h3,h4,h5⟩:=takeE_ok hk
   exact⟨x,h3,h4,(h5.cons a).trans (.swap ..)⟩
theorem MRs.perm {σ:Ren}{es es':List MapEntry}(hp:es.Perm es'):∀ {L:List MapEntry},MRs σ es L→∃ L',L.Perm L'∧MRs σ es' L':=by
 induction hp with
 | nil=>intro L h; cases h; exact⟨[],.nil,.nil⟩
 | cons x _ ih=>
  intro L h
  cases h with
  | @cons _ e' _ l' hk hv hl=>
   obtain⟨L',h1,h2⟩:=ih hl
   exact⟨e' :: L',h1.cons _,.cons hk hv h2⟩
 | swap x y l=>
  intro L h
  cases h with
  | @cons _ a _ l1 hk hv hl=>
   cases hl with
   | @cons _ b _ l2 hk2 hv2 hl2=>exact⟨b::a::l2,.swap ..,.cons hk2 hv2 (.cons hk hv hl2)⟩
 | trans _ _ ih1 ih2=>
  intro L h
  obtain⟨L1,h1,h2⟩:=ih1 h
  obtain⟨L2,h3,h4⟩:=ih2 h2
  exact⟨L2,h1.trans h3,h4⟩
theorem entL_ok {σ:Ren}:∀ {l es:List MapEntry},entL l es=true→∀ {L:List MapEntry},MRs σ es L→∃ L',L.Perm L'∧MRs σ l L'
 | [],es,h,L,hL=>by
  cases es with
  | nil=>cases hL; exact⟨[],.nil,.nil⟩
  | cons=>cases h
 | b::l,es,h,L,hL=>by
  have h:oc (takeE b es) false (fun es'=>entL l es')=true:=h
  cases ht:takeE b es with
  | none=>rw[ht] at h; cases h
  | some es'=>
   rw[ht,oc_some] at h
   obtain⟨a,h1,h2,h3⟩:=takeE_ok ht
   obtain⟨L1,h4,h5⟩:=hL.perm h3
   cases h5 with
   | @cons _ e' _ l' hk hv hl=>
    obtain⟨L2,h6,h7⟩:=entL_ok h hl
    exact⟨e' :: L2,h4.trans (h6.cons _),.cons (hk.trans h1) (h2 ▸ hv) h7⟩
theorem entL_mp {σ:Ren}{l es ES:List MapEntry}{clock:Nat}(h:entL l es=true)(hm:MPs σ es ES clock):MPs σ l ES clock:=by
 obtain⟨⟨L,h1,h2⟩,h3⟩:=hm
 obtain⟨L',h4,h5⟩:=entL_ok h h2
 exact⟨⟨L',h4.symm.trans h1,h5⟩,h3⟩
noncomputable def LB.sub (b:LB)(x:ABlk):Bool:=
 match b with
 | .cells e l=>(match x with
  | .cells c e'=>Nat.beq e' e&&subL c l 0
  | _=>false)
 | .map l n=>(match x with
  | .map es n'=>Nat.beq n' n&&entL l es
  | _=>false)
 | .iter b n=>(match x with
  | .iter b' n'=>Nat.beq b' b&&Nat.beq n' n
  | _=>false)
 | .pair e l=>(match x with
  | .pair c e'=>Nat.beq e' e&&subL c l 0
  | _=>false)
theorem LB.sub_br {b:LB}{x:ABlk}(h:b.sub x=true){σ:Ren}{d m:Nat}{o:Option Obj}(hx:BR σ d m o x):BR σ d m o b.lay:=by
 cases b with
 | cells e l=>
  cases x with
  | cells c e'=>
   simp only[LB.sub,bA] at h
   obtain rfl:=nB h.1
   obtain⟨C,h1,h2,h3⟩:=hx
   refine⟨C,h1,h2,fun i v hv=>h3 i v ?_⟩
   rw[qfu_] at hv
   have:=subL_get h.2 i v hv
   rwa [Nat.zero_add] at this
  | loop _=>cases h
  | marks _=>cases h
  | iter _ _=>cases h
  | iterAt _ _ _=>cases h
  | box _ _=>cases h
  | pair _ _=>cases h
  | zeros _ _=>cases h
  | map _ _=>cases h
 | map l n=>
  cases x with
  | map es n'=>
   simp only[LB.sub,bA] at h
   obtain rfl:=nB h.1
   obtain⟨ES,h1,h2,h3⟩:=hx
   exact⟨ES,h1,entL_mp h.2 h2,h3⟩
  | cells _ _=>cases h
  | loop _=>cases h
  | marks _=>cases h
  | iter _ _=>cases h
  | iterAt _ _ _=>cases h
  | box _ _=>cases h
  | pair _ _=>cases h
  | zeros _ _=>cases h
 | iter b n=>
  cases x with
  | iter b' n'=>
   simp only[LB.sub,bA] at h
   obtain rfl:=nB h.1
   obtain rfl:=nB h.2
   exact hx
  | cells _ _=>cases h
  | loop _=>cases h
  | marks _=>cases h
  | map _ _=>cases h
  | iterAt _ _ _=>cases h
  | box _ _=>cases h
  | pair _ _=>cases h
  | zeros _ _=>cases h
 | pair e l=>
  cases x with
  | pair c e'=>
   simp only[LB.sub,bA] at h
   obtain rfl:=nB h.1
   obtain⟨C,h1,h2,h3,h4⟩:=hx
   refine⟨C,h1,h2,fun i v hv=>h3 i v ?_,h4⟩
   rw[qfu_] at hv
   have:=subL_get h.2 i v hv
   rwa [Nat.zero_add] at this
  | cells _ _=>cases h
  | loop _=>cases h
  | marks _=>cases h
  | iter _ _=>cases h
  | iterAt _ _ _=>cases h
  | box _ _=>cases h
  | map _ _=>cases h
  | zeros _ _=>cases h
noncomputable def layO (t:Tr ABlk):List LBlk→Tr ABlk
 | []=>t
 | b::l=>(layO t l).set b.num b.blk.lay
theorem qze_ {t:Tr ABlk}:∀ {l:List LBlk} {n:Nat} {x:ABlk},(layO t l).get n=some x→(∃ b∈l,b.num=n∧x=b.blk.lay)∨t.get n=some x
 | [],n,x,h=>.inr h
 | b::l,n,x,h=>by
  rw[layO,Tr.get_set] at h
  by_cases hn:n=b.num
  ·rw[if_pos hn] at h
   exact .inl ⟨b,List.mem_cons_self ..,hn.symm,(oI h).symm⟩
  ·rw[if_neg hn] at h
   rcases qze_ h with⟨c,hc,h1⟩ | h1
   ·exact .inl ⟨c,List.mem_cons_of_mem _ hc,h1⟩
   ·exact .inr h1
noncomputable def insOk (t:Tr ABlk):List LBlk→Bool
 | []=>true
 | b::l=>oc (t.get b.num) false (fun x=>b.blk.sub x)&&insOk t l
theorem qvt_ {t:Tr ABlk}:∀ {l:List LBlk},insOk t l=true→∀ b∈l,∃ x,t.get b.num=some x∧b.blk.sub x=true
 | [],_,b,hb=>by cases hb
 | a::l,h,b,hb=>by
  simp only[insOk,bA] at h
  rcases List.mem_cons.1 hb with rfl | hb
  ·cases hc:t.get b.num with
   | none=>rw[hc] at h; exact absurd h.1 Bool.false_ne_true
   | some x=>rw[hc] at h; exact⟨x,rfl,h.1⟩
  ·exact qvt_ h.2 b hb
def allGe (n:Nat):List LBlk→Bool
 | []=>true
 | b::l=>Nat.ble n b.num&&allGe n l
theorem allGe_get {n:Nat}:∀ {l:List LBlk},allGe n l=true→∀ b∈l,n≤b.num
 | [],_,b,hb=>by cases hb
 | a::l,h,b,hb=>by
  simp only[allGe,bA] at h
  rcases List.mem_cons.1 hb with rfl | hb
  ·exact Nat.le_of_ble_eq_true h.1
  ·exact allGe_get h.2 b hb
theorem ins_hr {n0:Bs}{σ:Ren}{H:AH}{w:World}(hr:HR n0 σ H w){ins:List LBlk}(h:insOk H.blocks ins=true):HR n0 σ ⟨layO .nil ins,H.next,H.next⟩ w:=by
 have old:∀ {b x},(layO .nil ins).get b=some x→∃ y,H.blocks.get b=some y∧∀ {d m o},BR σ d m o y→BR σ d m o x:=by
  intro b x hx
  rcases qze_ hx with⟨c,hc,rfl,rfl⟩ | h0
  ·obtain⟨y,h1,h2⟩:=qvt_ h c hc
   exact⟨y,h1,fun q=>LB.sub_br h2 q⟩
  ·rw[Tr.get_nil] at h0; cases h0
 refine⟨hr.base,?_,?_,hr.dom,hr.img,hr.hol,hr.frz⟩
 ·intro b x hx
  obtain⟨y,h1,h2⟩:=old hx
  obtain⟨c,d,m,q1,q2,q3⟩:=hr.blk b y h1
  exact⟨c,d,m,q1,q2,h2 q3⟩
 ·intro b₁ b₂ x₁ x₂ c d₁ m₁ d₂ m₂ h1 h2 s1 s2
  obtain⟨y₁,h1,_⟩:=old h1
  obtain⟨y₂,h2,_⟩:=old h2
  exact hr.inj b₁ b₂ y₁ y₂ c d₁ m₁ d₂ m₂ h1 h2 s1 s2
theorem out_hr {n0:Bs}{σ σ₁:Ren}{H H1:AH}{w w':World}(hr:HR n0 σ H w)(hr1:HR n0 σ₁ H1 w')(st:Step n0 σ w H1.low σ₁ w')(hlow:H.next≤H1.low){nx lo:Nat}(hnx:H1.next≤nx){outs:List LBlk}(h:insOk H1.blocks outs=true)(hge:allGe H.next outs=true) :
  HR n0 σ₁ ⟨layO H.blocks outs,nx,lo⟩ w':=by
 have calm:=st.calm hr hlow
 have cases2:∀ {b x},(layO H.blocks outs).get b=some x→(H.next≤b∧∃ y,H1.blocks.get b=some y∧∀ {d m o},BR σ₁ d m o y→BR σ₁ d m o x)∨(H.blocks.get b=some x):=by
  intro b x hx
  rcases qze_ hx with⟨c,hc,rfl,rfl⟩ | h0
  ·obtain⟨y,h1,h2⟩:=qvt_ h c hc
   exact .inl ⟨allGe_get hge c hc,y,h1,fun q=>LB.sub_br h2 q⟩
  ·exact .inr h0
 refine⟨hr1.base,?_,?_,fun b t ht=>Nat.lt_of_lt_of_le (hr1.dom b t ht) hnx,hr1.img,(fun b hb=>⟨Nat.lt_of_lt_of_le (hr1.hol b hb).1 hnx,(hr1.hol b hb).2⟩),hr1.frz⟩
 ·intro b x hx
  rcases cases2 hx with⟨_,y,h1,h2⟩ | h1
  ·obtain⟨c,d,m,q1,q2,q3⟩:=hr1.blk b y h1
   exact⟨c,d,m,q1,q2,h2 q3⟩
  ·obtain⟨c,d,m,q1,q2,q3⟩:=hr.blk b x h1
   exact⟨c,d,m,st.ext _ _ q1,q2,by rw[(calm c (hr.img _ _ _ _ q1)).1]; exact q3.mono st.ext⟩
 ·have on:∀ {b₁ b₂ x c d₁ m₁ d₂ m₂},H.blocks.get b₁=some x→H.next≤b₂→σ₁ b₁=some (c,d₁,m₁)→σ₁ b₂=some (c,d₂,m₂)→False:=by
   intro b₁ b₂ x c d₁ m₁ d₂ m₂ h1 h2 s1 s2
   obtain⟨c',d,m,q1,_,_⟩:=hr.blk b₁ x h1
   have e:=st.ext _ _ q1
   rw[s1] at e
   injection e with e
   injection e with e _
   subst e
   have:=(calm c (hr.img _ _ _ _ q1)).2 _ _ _ s2
   exact absurd (hr.dom _ _ this) (Nat.not_lt.2 h2)
  intro b₁ b₂ x₁ x₂ c d₁ m₁ d₂ m₂ h1 h2 s1 s2
  rcases cases2 h1 with⟨g1,y₁,h1,_⟩ | h1
  ·rcases cases2 h2 with⟨g2,y₂,h2,_⟩ | h2
   ·exact hr1.inj b₁ b₂ y₁ y₂ c d₁ m₁ d₂ m₂ h1 h2 s1 s2
   ·exact (on h2 g1 s2 s1).elim
  ·rcases cases2 h2 with⟨g2,y₂,h2,_⟩ | h2
   ·exact (on h1 g2 s1 s2).elim
   ·obtain⟨c₁,d,m,q1,_,_⟩:=hr.blk b₁ x₁ h1
    obtain⟨c₂,d',m',q2,_,_⟩:=hr.blk b₂ x₂ h2
    have e1:=st.ext _ _ q1
    have e2:=st.ext _ _ q2
    rw[s1] at e1
    rw[s2] at e2
    injection e1 with e1
    injection e1 with e1 _
    injection e2 with e2
    injection e2 with e2 _
    exact hr.inj b₁ b₂ x₁ x₂ c d m d' m' h1 h2 (e1 ▸ q1) (e2 ▸ q2)
structure Entry where
 f:FuncId
 args:List Value
 ins:List LBlk
 num:Nat
 val:Value
 outs:List LBlk
 next:Nat
noncomputable def outH (H:AH)(e:Entry):AH:=⟨layO H.blocks e.outs,e.next,Nat.min H.low e.num⟩
def qh1_ (P:Program)(e:Entry):Prop:=
 ∀ (n:Base) (X:Nat→Prop) H σ w args',insOk H.blocks e.ins=true→H.next=e.num→VRs σ e.args args'.toList→HR ⟨n,X⟩ σ H w→CallGo P ⟨n,X⟩ σ w e.val (outH H e) args' (.func e.f)
def AllOK (P:Program):List Entry→Prop
 | []=>True
 | e::l=>qh1_ P e∧AllOK P l
noncomputable def layE (l:List Entry):Tr Entry:=@List.rec Entry (fun _=>Tr Entry) .nil (fun e _ ih=>ih.set e.num e) l
theorem layE_cons (e:Entry)(l:List Entry):layE (e::l)=(layE l).set e.num e:=rfl
theorem q0s_ {P:Program}:∀ {l:List Entry},AllOK P l→∀ k e,(layE l).get k=some e→qh1_ P e
 | [],_,k,e,h=>by cases h
 | a::l,hl,k,e,h=>by
  rw[layE_cons,Tr.get_set] at h
  by_cases hk:k=a.num
  ·rw[if_pos hk] at h
   obtain rfl:=oI h
   exact hl.1
  ·rw[if_neg hk] at h
   exact q0s_ hl.2 k e h
noncomputable def hitE (e:Entry)(fn:Fn)(args:List Value)(H:AH):Bool:=oc (fnNum fn) false (fun g=>Nat.beq g e.f)&&(Nat.beq H.next e.num&&(veqL veq args e.args&&insOk H.blocks e.ins))
noncomputable def lookO (O:Tr Entry)(fn:Fn)(args:List Value)(H:AH):Option Entry:=oc (O.get H.next) none fun e=>sel (hitE e fn args H) (some e) none
noncomputable def goO (rd:RegT)(P:Program)(K:List SK)(O:Tr Entry)(ih:CallT)(fn:Fn)(args:List Value)(H:AH):VRes:=
 oc (lookO O fn args H) (oc (skAll K fn args H) (callGo rd P ih fn args H) fun r=>some r) fun e=>some (e.val,outH H e)
noncomputable def callO (rd:RegT)(P:Program)(K:List SK)(O:Tr Entry)(n:Nat):CallT:=@Nat.rec (fun _=>CallT) (fun _ _ _=>none) (fun _ ih=>goO rd P K O ih) n
theorem callO_succ (rd:RegT)(P:Program)(K:List SK)(O:Tr Entry)(n:Nat):callO rd P K O (n+1)=goO rd P K O (callO rd P K O n):=rfl
theorem callO_ok {P:Program}{n0:Nat}{rd:RegT}(hrd:RdOK P n0 rd)(hlow:RdLow rd){K:List SK}(hK:SKsOK P K){O:Tr Entry}(hO:∀ k e,O.get k=some e→qh1_ P e):∀ k,qn1_ P n0 (callO rd P K O k):=by
 intro k
 induction k with
 | zero=>intro Q X fn args H v H' h; cases h
 | succ k ih=>
  intro Q X fn args H v H' h σ w fn' args' hfn hargs hr
  rw[callO_succ] at h
  unfold goO at h
  cases hl:lookO O fn args H with
  | none=>
   rw[hl] at h
   have h:oc (skAll K fn args H) (callGo rd P (callO rd P K O k) fn args H) (fun r=>some r)=some (v,H'):=h
   cases hk:skAll K fn args H with
   | none=>
    rw[hk] at h
    exact q1n_ hrd hlow ih Q X fn args H v H' h σ w fn' args' hfn hargs hr
   | some r=>
    rw[hk] at h
    obtain rfl:=oI h
    exact skAll_ok hK n0 Q X fn args H v H' hk σ w fn' args' hfn hargs hr
  | some e=>
   rw[hl] at h
   obtain⟨rfl,rfl⟩:=pI (oI h)
   obtain⟨e',he,hl⟩:=oS hl
   obtain⟨hh,hl⟩:=sel_none hl
   obtain rfl:=oI hl
   simp only[hitE,bA] at hh
   obtain⟨h1,h2,h3,h4⟩:=hh
   cases hf:fnNum fn with
   | none=>rw[hf] at h1; exact absurd h1 Bool.false_ne_true
   | some g=>
    rw[hf] at h1
    obtain rfl:=nB h1
    obtain rfl:=q1o_ hf
    cases hfn
    obtain rfl:=qy2_ (fun a b h=>qy3_ h) h3
    exact hO _ _ he ⟨n0,Q⟩ X H σ w args' h4 (nB h2) hargs hr
noncomputable def callQ (P:Program)(K:List SK)(l:List Entry):CallT:=callO (qy8_ P) P K (layE l) 100000
noncomputable def chkR (e:Entry)(r:VRes):Bool:=
 oc r false fun x=>veq x.1 e.val&&(Nat.ble e.num x.2.low&&(Nat.ble x.2.next e.next&&(insOk x.2.blocks e.outs&&allGe e.num e.outs)))
noncomputable def chkE (P:Program)(K:List SK)(l:List Entry)(e:Entry):Bool:=chkR e (callQ P K l (.func e.f) e.args ⟨layO .nil e.ins,e.num,e.num⟩)
theorem part {P:Program}(hm:P.follows .mixedOrders=true){K:List SK}(hK:SKsOK P K){l:List Entry}(hl:AllOK P l){e:Entry}(h:chkE P K l e=true):qh1_ P e:=by
 intro n X H σ w args' hins hnum hargs hr
 unfold chkE chkR at h
 cases hc:callQ P K l (.func e.f) e.args ⟨layO .nil e.ins,e.num,e.num⟩ with
 | none=>rw[hc] at h; cases h
 | some x=>
  rw[hc] at h
  obtain⟨v,H1⟩:=x
  have h:(veq v e.val&&(Nat.ble e.num H1.low&&(Nat.ble H1.next e.next&&(insOk H1.blocks e.outs&&allGe e.num e.outs))))=true:=h
  simp only[bA] at h
  obtain⟨h1,h2,h3,h4,h5⟩:=h
  have h1:=qy3_ h1
  have h2:=Nat.le_of_ble_eq_true h2
  have h3:=Nat.le_of_ble_eq_true h3
  rw[←hnum] at hc h2 h5
  obtain⟨g1,g2⟩:=callO_ok (qnm_ hm n.n) (qky_ P) hK (q0s_ hl) 100000 n.Q X _ _ _ _ _ hc σ w _ args' (.func e.f) hargs (ins_hr hr hins)
  refine⟨g1,fun k=>CallsIn.mono (g2 k) ?_⟩
  rintro en w' ⟨v',σ',rfl,q1,q2,q3⟩
  refine⟨v',σ',rfl,h1 ▸ q1,out_hr hr q2 q3 h2 h3 h4 h5,q3.lower ?_⟩
  show Nat.min H.low e.num≤H1.low
  exact Nat.le_trans (Nat.min_le_right _ _) (hnum ▸ h2)
end Go.Proofs.YthlikofobjhcoaaGreat.Ax
namespace Go.Proofs.YthlikofobjhcoaaGreat.Ax
open Go.RowKit
variable [Tabs]
theorem qwq_ {F:Fence}{n:Nat}{P:Program}{c:Code}{Q Q':Exit→Act→World→Prop}(hq:∀ e a w,Q e a w→Q' e a w):∀ (m:Nat) (a:Act) (w:World),Code.roundsIn F n P c Q m a w→Code.roundsIn F n P c Q' m a w
 | 0,_,_,h=>h
 | m+1,a,w,h=>by
  rw[roundsIn_succ] at h ⊢
  refine wpIn_mono h fun e a' w' q=>?_
  cases e<;>first | exact qwq_ hq m a' w' q | exact hq _ _ _ q
theorem qwr_ {F:Fence}{n:Nat}{P:Program}{c:Code}{Q:Exit→Act→World→Prop}:∀ (m k:Nat) (a:Act) (w:World),Code.roundsIn F n P c Q m a w→Code.roundsIn F n P c Q (m+k) a w
 | 0,k,a,w,h=>h.elim
 | m+1,k,a,w,h=>by
  rw[show m+1+k=(m+k)+1 from by omega,roundsIn_succ]
  rw[roundsIn_succ] at h
  refine wpIn_mono h fun e a' w' q=>?_
  cases e<;>first | exact qwr_ m k a' w' q | exact q
def child (d:Bool)(c:Code):Option Code:=
 match c with
 | .seq a b=>(match d with
  | false=>some a
  | true=>some b)
 | .cond _ a b=>(match d with
  | false=>some a
  | true=>some b)
 | .block _ b=>(match d with
  | false=>some b
  | true=>none)
 | .loop b=>(match d with
  | false=>some b
  | true=>none)
 | .rangeFunc _ _ a b=>(match d with
  | false=>some a
  | true=>some b)
 | .scope b=>(match d with
  | false=>some b
  | true=>none)
 | _=>none
noncomputable def qws_ (c:Code):List Bool→Option Code
 | []=>some c
 | d::p=>oc (qws_ c p) none fun x=>child d x
theorem qkz_ {c x y:Code}{d:Bool}{p:List Bool}(h:qws_ c p=some x)(hc:child d x=some y):qws_ c (d::p)=some y:=by
 show oc (qws_ c p) none (fun x=>child d x)=some y
 rw[h]; exact hc
abbrev LoT:=List Bool→XSt→XRes
structure QuietOK (P:Program) (q:Nat×Nat):Prop where
 live:liveF P q.1=true
 does:∀ (x:Array Value) (w:World) (n:Nat),x.size=q.2→CallsDIn Fence.wide n P q.1 x .returning w fun e u' w'=>(∃ v,e=.returned v)∧u'=.returning∧w'=w
def QuietsOK (P:Program):List (Nat×Nat)→Prop
 | []=>True
 | q::l=>QuietOK P q∧QuietsOK P l
theorem QuietsOK.mem {P:Program}:∀ {l:List (Nat×Nat)},QuietsOK P l→∀ q∈l,QuietOK P q
 | [],_,q,h=>by cases h
 | a::l,hl,q,h=>by
  rcases List.mem_cons.1 h with rfl | h
  ·exact hl.1
  ·exact hl.2.mem q h
def isQuiet (ql:List (Nat×Nat))(g k:Nat):Bool:=ql.any fun q=>Nat.beq q.1 g&&Nat.beq q.2 k
theorem isQuiet_mem {ql:List (Nat×Nat)}{g k:Nat}(h:isQuiet ql g k=true):(g,k)∈ql:=by
 obtain⟨q,h1,h2⟩:=List.any_eq_true.1 h
 simp only[bA] at h2
 obtain⟨a,b⟩:=q
 have e1:=nB h2.1
 have e2:=nB h2.2
 simp only at e1 e2
 subst e1 e2
 exact h1
def defOp2 (d:Tmp)(o:Oper):Bool:=
 match o.op with
 | .defer c=>(match c.callee with
  | .value (.tmp e)=>Nat.beq e d&&c.args.toList.isEmpty&&o.guard.isNone&&o.dst.isNone
  | _=>false)
 | _=>false
def defOp1 (o:Oper):Option (Tmp×Nat×List Operand):=
 match o.op with
 | .makeFunc (.func g) first cap=>(match o.dst with
  | some d=>bif first.toList.isEmpty&&o.guard.isNone then some (d,g,cap.toList) else none
  | none=>none)
 | _=>none
def defReg (ops:List Oper):Option (Tmp×Nat×List Operand):=
 match ops with
 | [o1,o2]=>(match defOp1 o1 with
  | some r=>bif defOp2 r.1 o2 then some r else none
  | none=>none)
 | _=>none
noncomputable def regQ (N:Nat)(r:Tmp×Nat×List Operand)(s:XSt):XRes:=
 sel (Nat.blt r.1 N&&qwl_ r.2.2) (some (.normal,(s.1.set r.1 (.func (.func r.2.1) #[] ⟨evL s.1 r.2.2⟩),.call r.2.1 (evL s.1 r.2.2)::s.2.1,s.2.2))) none
theorem defReg_eq {ops:List Oper}{r:Tmp×Nat×List Operand}(h:defReg ops=some r):∃ o1 o2 cap c,ops=[o1,o2]∧o1.op=.makeFunc (.func r.2.1) #[] cap∧cap.toList=r.2.2∧o1.dst=some r.1∧o1.guard=none∧o2.op=.defer c∧c.callee=.value (.tmp r.1)∧c.args=#[]∧o2.guard=none∧o2.dst=none:=by
 unfold defReg at h
 split at h
 ·rename_i o1 o2
  split at h
  ·rename_i r' h1
   cases h2:defOp2 r'.1 o2 with
   | false=>rw[h2] at h; cases h
   | true=>
    rw[h2] at h
    simp only[cond_true,Option.some.injEq] at h
    subst h
    unfold defOp1 at h1
    split at h1
    ·rename_i g first cap e1
     split at h1
     ·rename_i d e2
      cases hb:(first.toList.isEmpty&&o1.guard.isNone) with
      | false=>rw[hb] at h1; cases h1
      | true=>
       rw[hb] at h1
       simp only[cond_true,Option.some.injEq] at h1
       subst h1
       simp only[bA,List.isEmpty_iff,Option.isNone_iff_eq_none] at hb
       unfold defOp2 at h2
       split at h2
       ·rename_i c e3
        split at h2
        ·rename_i e e4
         simp only[bA,List.isEmpty_iff,Option.isNone_iff_eq_none] at h2
         obtain⟨⟨⟨q1,q2⟩,q3⟩,q4⟩:=h2
         have q1:=nB q1
         subst q1
         have f0:first=#[]:=by cases first; simpa using hb.1
         have a0:c.args=#[]:=by
          have:c.args.toList=[]:=q2
          cases hc:c.args; rw[hc] at this; simpa using this
         exact⟨o1,o2,cap,c,rfl,by rw[e1,f0],rfl,e2,hb.2,e3,e4,a0,q3,q4⟩
        ·cases h2
       ·cases h2
     ·cases h1
    ·cases h1
  ·cases h
 ·cases h
theorem regQ_ok {P:Program}{N:Nat}{n0:Bs}{r:Tmp×Nat×List Operand}{s:XSt}{x:Ex×XSt}(h:regQ N r s=some x){id:Nat}{ops:Array Oper}(hr1:defReg ops.toList=some r){F:Fence}{n:Nat}{σ:Ren}{w:World}{a:Act}(hF:WideF F)(hro:F.round=none)(hT:TR σ N s.1 a.tmps)(hD:DR σ s.2.1 a.defers)(hr:HR n0 σ s.2.2 w) :
  (Code.region id ops false).wpIn F n P (CodeAt n0 N σ w x) a w:=by
 obtain⟨hb,h⟩:=sel_none h
 obtain rfl:=oI h
 simp only[bA] at hb
 obtain⟨b3,b4⟩:=hb
 obtain⟨o1,o2,cap,c,e0,e1,e2,e3,e4,e5,e6,e7,e8,e9⟩:=defReg_eq hr1
 have ho:ops=#[o1,o2]:=by cases ops; simpa using e0
 subst ho
 refine wpIn_region ?_
 have hd:=qfr_ b3
 have hcap:VRs σ (evL s.1 r.2.2) (cap.map a.eval).toList:=by
  rw[Array.toList_map,e2]
  exact qyr_ hT b4
 show wpOpsIn F n P #[o1,o2] _ [0,1] a w
 unfold wpOpsIn
 simp only[List.getElem?_toArray,List.getElem?_cons_zero]
 have w1:Region.wanted o1 (yielded #[o1,o2] a.tmps)=true:=by unfold Region.wanted; rw[e4]
 rw[if_pos w1]
 refine⟨fun f _=>hF.fn f,?_⟩
 have d1:∀ c',o1.op ≠ .defer c':=fun c' e=>by rw[e1] at e; cases e
 rw[Oper.semAt_eq F.round a.eval o1 d1]
 have r1:(execOp a.eval o1).run P w=.ok (.value (.func (.func r.2.1) #[] (cap.map a.eval))) w:=by
  simp[execOp,e1,Instr.makeFunc]
 rw[r1]
 show wpOpsIn F n P #[o1,o2] _ [1] (a.put o1.dst _) w
 unfold wpOpsIn
 simp only[List.getElem?_toArray,List.getElem?_cons_succ,List.getElem?_cons_zero]
 have w2:∀ t,Region.wanted o2 (yielded #[o1,o2] t)=true:=fun t=>by unfold Region.wanted; rw[e8]
 rw[if_pos (w2 _)]
 refine⟨fun f _=>hF.fn f,?_⟩
 have hlt:r.1<a.tmps.size:=by rw[hT.size]; exact hd
 have ev2:(a.put o1.dst (.func (.func r.2.1) #[] (cap.map a.eval))).eval (.tmp r.1)=.func (.func r.2.1) #[] (cap.map a.eval):=by
  rw[e3]
  simp[Act.put,Act.eval,hlt]
 have r2:(Oper.semAt F.round (a.put o1.dst (.func (.func r.2.1) #[] (cap.map a.eval))).eval o2).run P w=.ok (.defer { target:=.fn (.func r.2.1) (cap.map a.eval),args:=#[] }) w:=by
  rw[hro,Oper.semAt_none]
  simp only[execOp,e5,resolve,e6,e7,ev2,Deferred.ofValue]
  simp
 rw[r2,Oper.uponIn_defer]
 unfold wpOpsIn
 rw[e9,e3]
 refine⟨rfl,σ,?_,?_,hr,Step.refl _ _ _ _⟩
 ·have:=hT.set (v:=.func (.func r.2.1) #[] ⟨evL s.1 r.2.2⟩) (VRs.func (.func r.2.1) .nil hcap) hd
  simpa [Act.put] using this
 ·have:=DR.call (g:=r.2.1) hcap hD
  simpa [Act.put] using this
noncomputable def regionD (rd:RegT)(P:Program)(ql:List (Nat×Nat))(call:CallT)(N:Nat)(draw:Bool)(ops:List Oper)(s:XSt):XRes:=
 oc (defReg ops) (regionX rd P call N draw ops s) fun r=>sel (!draw) (regQ N r s) none
noncomputable def exec2 (rd:RegT)(P:Program)(ql:List (Nat×Nat))(call:CallT)(lo:LoT)(rnd:Option Nat)(N n:Nat):Code→List Bool→XSt→XRes:=
 @Nat.rec (fun _=>Code→List Bool→XSt→XRes) (fun _ _ _=>none)
  (fun m ih c p s=>@Code.rec (fun _=>XRes)
   (some (.normal,s))
   (fun _ ops draw=>regionD rd P ql call N draw ops.toList s)
   (fun a b _ _=>bindX (ih a (false::p) s) (ih b (true::p)))
   (fun c a b _ _=>condX c s (ih a (false::p) s) (ih b (true::p) s))
   (fun i b _=>blockX i (ih b (false::p) s))
   (fun b _=>oc (lo p s) (bindX (ih b (false::p) s) (ih (.loop b) p)) some)
   (fun f ps as bd _ _=>rangeX call (exec rd P call rnd N fuel) rnd N f ps as bd s)
   (fun i=>some (.exit i,s))
   (fun b _=>ih b (false::p) s)
   (fun _=>some (.normal,s))
   (fun _=>none)
   (some (.ret,s))
   (fun _=>none) c) n
section eqs
variable (rd:RegT) (P:Program) (ql:List (Nat×Nat)) (call:CallT) (lo:LoT) (rnd:Option Nat) (N n:Nat) (p:List Bool) (s:XSt)
theorem q0t_ (b:Code):exec2 rd P ql call lo rnd N (n+1) (.scope b) p s=exec2 rd P ql call lo rnd N n b (false::p) s:=rfl
theorem qzf_ (id:Nat)(ops:Array Oper)(d:Bool):exec2 rd P ql call lo rnd N (n+1) (.region id ops d) p s=regionD rd P ql call N d ops.toList s:=rfl
theorem exec2_seq (a b:Code):exec2 rd P ql call lo rnd N (n+1) (.seq a b) p s=bindX (exec2 rd P ql call lo rnd N n a (false::p) s) (exec2 rd P ql call lo rnd N n b (true::p)):=rfl
theorem exec2_cond (c:Operand)(a b:Code):exec2 rd P ql call lo rnd N (n+1) (.cond c a b) p s=condX c s (exec2 rd P ql call lo rnd N n a (false::p) s) (exec2 rd P ql call lo rnd N n b (true::p) s):=rfl
theorem q0u_ (i:Nat)(b:Code):exec2 rd P ql call lo rnd N (n+1) (.block i b) p s=blockX i (exec2 rd P ql call lo rnd N n b (false::p) s):=rfl
theorem exec2_loop (b:Code):exec2 rd P ql call lo rnd N (n+1) (.loop b) p s=oc (lo p s) (bindX (exec2 rd P ql call lo rnd N n b (false::p) s) (exec2 rd P ql call lo rnd N n (.loop b) p)) some:=rfl
theorem q0v_ (f:Operand)(ps:Array Tmp)(as bd:Code):exec2 rd P ql call lo rnd N (n+1) (.rangeFunc f ps as bd) p s=rangeX call (exec rd P call rnd N fuel) rnd N f ps as bd s:=rfl
end eqs
def LoLow (lo:LoT):Prop:=∀ p s x,lo p s=some x→x.2.2.2.low≤s.2.2.low
theorem rangeX_low {rd:RegT}(hrd:RdLow rd){P:Program}{call:CallT}{rnd:Option Nat}{N:Nat}{f:Operand}{ps:Array Tmp}{as bd:Code}{s:XSt}{x:Ex×XSt}(h:rangeX call (exec rd P call rnd N fuel) rnd N f ps as bd s=some x):x.2.2.2.low≤s.2.2.low:=
 qyz_ (P:=P) (call:=call) (rnd:=rnd) (N:=N) hrd (fuel+1) (.rangeFunc f ps as bd) s x h
theorem exec2_low {rd:RegT}(hrd:RdLow rd){P:Program}{ql:List (Nat×Nat)}{call:CallT}{lo:LoT}(hlo:LoLow lo){rnd:Option Nat}{N:Nat}:∀ (n:Nat) (c:Code) (p:List Bool) (s:XSt) (x:Ex×XSt),exec2 rd P ql call lo rnd N n c p s=some x→x.2.2.2.low≤s.2.2.low:=by
 intro n
 induction n with
 | zero=>intro c p s x h; cases h
 | succ n ih=>
  intro c p s x h
  cases c with
  | skip=>obtain rfl:=oI h; exact Nat.le_refl _
  | label l=>obtain rfl:=oI h; exact Nat.le_refl _
  | ret=>obtain rfl:=oI h; exact Nat.le_refl _
  | exit i=>obtain rfl:=oI h; exact Nat.le_refl _
  | scope b=>
   rw[q0t_] at h
   exact ih _ _ _ _ h
  | goto l=>cases h
  | refuse y=>cases h
  | region id ops d=>
   rw[qzf_] at h
   unfold regionD at h
   cases hd:defReg ops.toList with
   | some r=>
    rw[hd] at h
    obtain⟨_,h⟩:=sel_none h
    obtain⟨_,h⟩:=sel_none h
    obtain rfl:=oI h
    exact Nat.le_refl _
   | none=>
    rw[hd] at h
    obtain⟨r,hr,h⟩:=oS h
    obtain rfl:=oI h
    rcases qa_ hr with⟨_,hr⟩ | ⟨_,hr⟩
    ·exact hrd _ _ _ _ _ _ _ hr
    ·exact qnc_ (sel_none hr).2
  | seq a b=>
   rw[exec2_seq] at h
   rcases qsh_ h with⟨s1,h1,h2⟩ | ⟨_,h1⟩
   ·exact Nat.le_trans (ih _ _ _ _ h2) (ih _ _ _ _ h1)
   ·exact ih _ _ _ _ h1
  | loop b=>
   rw[exec2_loop] at h
   cases hl:lo p s with
   | some y=>
    rw[hl] at h
    obtain rfl:=oI h
    exact hlo _ _ _ hl
   | none=>
    rw[hl] at h
    rcases qsh_ h with⟨s1,h1,h2⟩ | ⟨_,h1⟩
    ·exact Nat.le_trans (ih _ _ _ _ h2) (ih _ _ _ _ h1)
    ·exact ih _ _ _ _ h1
  | cond c a b=>
   rw[exec2_cond] at h
   obtain⟨_,h⟩:=sel_none h
   obtain⟨g,_,h⟩:=oS h
   cases g
   ·exact ih _ _ _ _ h
   ·exact ih _ _ _ _ h
  | block i b=>
   rw[q0u_] at h
   obtain⟨⟨e,s1⟩,h1,h⟩:=oS h
   have l1:=ih _ _ _ _ h1
   cases e with
   | normal=>
    have h:exec2 rd P ql call lo rnd N n b (false::p) s=some x:=h
    rw[h1] at h
    obtain rfl:=oI h; exact l1
   | ret=>
    have h:exec2 rd P ql call lo rnd N n b (false::p) s=some x:=h
    rw[h1] at h
    obtain rfl:=oI h; exact l1
   | exit j=>
    have h:sel (Nat.beq j i) (some (.normal,s1)) (exec2 rd P ql call lo rnd N n b (false::p) s)=some x:=h
    rcases qa_ h with⟨_,h⟩ | ⟨_,h⟩
    ·obtain rfl:=oI h; exact l1
    ·rw[h1] at h
     obtain rfl:=oI h; exact l1
  | rangeFunc f ps as bd=>
   rw[q0v_] at h
   exact rangeX_low hrd h
def LoOK (P:Program)(n0:Bs)(rnd:Option Nat)(N:Nat)(body:Code)(M:Nat)(lo:LoT):Prop:=
 ∀ (p:List Bool) (b:Code) (s:XSt) (x:Ex×XSt),qws_ body p=some (.loop b)→lo p s=some x→∀ (F:Fence) (n:Nat) (σ:Ren) (w:World) (a:Act),WideF F→RndR σ rnd F.round→TR σ N s.1 a.tmps→DR σ s.2.1 a.defers→HR n0 σ s.2.2 w→Code.roundsIn F n P b (CodeAt n0 N σ w x) M a w
theorem exec2_ok {P:Program}{N:Nat}{n0:Bs}{rd:RegT}{call:CallT}(hcall:qn1_ P n0.n.n call)(hrd:RdOK P n0.n.n rd)(hlow:RdLow rd){ql:List (Nat×Nat)}(hq:QuietsOK P ql){lo:LoT}(hll:LoLow lo){rnd:Option Nat}(hrn:rnd=none){body:Code}{M:Nat}(hlo:LoOK P n0 rnd N body M lo) :
  ∀ (k:Nat) (c:Code) (p:List Bool) (s:XSt) (x:Ex×XSt),qws_ body p=some c→exec2 rd P ql call lo rnd N k c p s=some x→∀ (F:Fence) (n:Nat) (σ:Ren) (w:World) (a:Act),WideF F→RndR σ rnd F.round→TR σ N s.1 a.tmps→DR σ s.2.1 a.defers→HR n0 σ s.2.2 w →
   c.wpIn F n P (CodeAt n0 N σ w x) a w∧∀ b,c=.loop b→Code.roundsIn F n P b (CodeAt n0 N σ w x) (k+M) a w:=by
 intro k
 induction k with
 | zero=>intro c p s x _ h; cases h
 | succ k ih'=>
  have ih:∀ (c:Code) (p:List Bool) (s:XSt) (x:Ex×XSt),qws_ body p=some c→exec2 rd P ql call lo rnd N k c p s=some x→∀ (F:Fence) (n:Nat) (σ:Ren) (w:World) (a:Act),WideF F→RndR σ rnd F.round→TR σ N s.1 a.tmps→DR σ s.2.1 a.defers→HR n0 σ s.2.2 w→c.wpIn F n P (CodeAt n0 N σ w x) a w:=
   fun c p s x hp h F n σ w a h1 h2 h3 h4 h5=>(ih' c p s x hp h F n σ w a h1 h2 h3 h4 h5).1
  intro c p s x hp h F n σ w a hF hrnd hT hD hr
  have hlk:=exec2_low (P:=P) (ql:=ql) (call:=call) (rnd:=rnd) (N:=N) hlow hll k
  cases c with
  | loop b=>
   have main:Code.roundsIn F n P b (CodeAt n0 N σ w x) (k+1+M) a w:=by
    rw[exec2_loop] at h
    cases hl:lo p s with
    | some y=>
     rw[hl] at h
     obtain rfl:=oI h
     have:=qwr_ M (k+1) a w (hlo p b s y hp hl F n σ w a hF hrnd hT hD hr)
     rwa [Nat.add_comm M] at this
    | none=>
     rw[hl] at h
     have hc:qws_ body (false::p)=some b:=qkz_ hp rfl
     rw[show k+1+M=(k+M)+1 from by omega,roundsIn_succ]
     rcases qsh_ h with⟨s1,h1,h2⟩ | ⟨hne,h1⟩
     ·refine wpIn_mono (ih b _ s _ hc h1 F n σ w a hF hrnd hT hD hr) ?_
      rintro e a' w' ⟨rfl,σ',q1,q2,q3,q4⟩
      have:=(ih' (.loop b) p s1 x hp h2 F n σ' w' a' hF (hrnd.mono q4.ext) q1 q2 q3).2 b rfl
      exact qwq_ (fun e a'' w'' hq=>hq.trans q4 (hlk _ _ _ _ h2)) _ _ _ this
     ·refine wpIn_mono (ih b _ s _ hc h1 F n σ w a hF hrnd hT hD hr) ?_
      rintro e a' w' hq
      have he:e ≠ .normal:=by
       rw[hq.1]; intro hx
       cases hx1:x.1<;>rw[hx1] at hx hne<;>first | exact hne rfl | cases hx
      cases e<;>first | exact absurd rfl he | exact hq
   exact⟨wpIn_loop_rounds _ main,fun b' hb=>by cases hb; exact main⟩
  | skip=>obtain rfl:=oI h; exact⟨wpIn_skip ⟨rfl,σ,hT,hD,hr,Step.refl _ _ _ _⟩,fun b hb=>by cases hb⟩
  | label l=>obtain rfl:=oI h; exact⟨wpIn_label ⟨rfl,σ,hT,hD,hr,Step.refl _ _ _ _⟩,fun b hb=>by cases hb⟩
  | ret=>obtain rfl:=oI h; exact⟨wpIn_ret ⟨rfl,σ,hT,hD,hr,Step.refl _ _ _ _⟩,fun b hb=>by cases hb⟩
  | exit i=>obtain rfl:=oI h; exact⟨wpIn_exit ⟨rfl,σ,hT,hD,hr,Step.refl _ _ _ _⟩,fun b hb=>by cases hb⟩
  | scope b=>
   refine⟨?_,fun b' hb=>by cases hb⟩
   rw[q0t_] at h
   refine qyx_ ?_ (ih b _ s x (qkz_ hp rfl) h F n σ w a hF hrnd hT hD hr)
   intro l a' w' hq
   have he:=hq.1
   cases hx1:x.1<;>rw[hx1] at he<;>cases he
  | goto l=>cases h
  | refuse y=>cases h
  | region id ops d=>
   refine⟨?_,fun b' hb=>by cases hb⟩
   rw[qzf_] at h
   unfold regionD at h
   cases hdr:defReg ops.toList with
   | some r=>
    rw[hdr] at h
    obtain⟨hdf,h⟩:=sel_none h
    have hdf:d=false:=by simpa using hdf
    subst hdf
    subst hrn
    exact regQ_ok h hdr hF hrnd hT hD hr
   | none=>
   rw[hdr] at h
   obtain⟨r,hr1,h⟩:=oS h
   obtain rfl:=oI h
   have post:∀ a' w',At n0 N σ w r.1 r.2 a.defers a' w'→CodeAt n0 N σ w (.normal,(r.1,s.2.1,r.2)) .normal a' w':=by
    rintro a' w' ⟨σ',h1,h2,h3,h4⟩
    exact⟨rfl,σ',h1,by rw[h2]; exact hD.mono h4.ext,h3,h4⟩
   rcases qa_ hr1 with⟨rfl,hr1⟩ | ⟨rfl,hr1⟩
   ·exact hrd n0.n.Q n0.X call hcall F hF n N id ops _ _ _ _ σ w a hr1 hT hr _ post
   ·exact regSeq_ok hcall hF hr1 hT hr post
  | seq b c=>
   refine⟨?_,fun b' hb=>by cases hb⟩
   rw[exec2_seq] at h
   have hb1:qws_ body (false::p)=some b:=qkz_ hp rfl
   have hc1:qws_ body (true::p)=some c:=qkz_ hp rfl
   rcases qsh_ h with⟨s1,h1,h2⟩ | ⟨hne,h1⟩
   ·refine wpIn_seq (wpIn_mono (ih b _ s _ hb1 h1 F n σ w a hF hrnd hT hD hr) ?_)
    rintro e a' w' ⟨rfl,σ',q1,q2,q3,q4⟩
    exact wpIn_mono (ih c _ s1 x hc1 h2 F n σ' w' a' hF (hrnd.mono q4.ext) q1 q2 q3) fun e a'' w'' hq=>hq.trans q4 (hlk _ _ _ _ h2)
   ·refine wpIn_seq (wpIn_mono (ih b _ s _ hb1 h1 F n σ w a hF hrnd hT hD hr) ?_)
    rintro e a' w' hq
    have he:e ≠ .normal:=by
     rw[hq.1]; intro hx
     cases hx1:x.1<;>rw[hx1] at hx hne<;>first | exact hne rfl | cases hx
    cases e<;>first | exact absurd rfl he | exact hq
  | cond c b d=>
   refine⟨?_,fun b' hb=>by cases hb⟩
   rw[exec2_cond] at h
   obtain⟨hc,h⟩:=sel_none h
   obtain⟨g,hg,h⟩:=oS h
   have hv:=ev_ok (a:=a) hT hc
   rw[asB_eq hg] at hv
   generalize hcv:a.eval c=cv at hv
   cases hv
   refine wpIn_cond hcv ?_
   cases g
   ·exact ih d _ s x (qkz_ hp rfl) h F n σ w a hF hrnd hT hD hr
   ·exact ih b _ s x (qkz_ hp rfl) h F n σ w a hF hrnd hT hD hr
  | block i b=>
   refine⟨?_,fun b' hb=>by cases hb⟩
   rw[q0u_] at h
   obtain⟨⟨e,s1⟩,h1,h⟩:=oS h
   have h1':=ih b _ s _ (qkz_ hp rfl) h1 F n σ w a hF hrnd hT hD hr
   refine wpIn_block (wpIn_mono h1' ?_)
   rintro e' a' w' ⟨rfl,hq⟩
   cases e with
   | normal=>
    have h:exec2 rd P ql call lo rnd N k b (false::p) s=some x:=h
    rw[h1] at h
    obtain rfl:=oI h; exact⟨rfl,hq⟩
   | ret=>
    have h:exec2 rd P ql call lo rnd N k b (false::p) s=some x:=h
    rw[h1] at h
    obtain rfl:=oI h; exact⟨rfl,hq⟩
   | exit j=>
    have h:sel (Nat.beq j i) (some (.normal,s1)) (exec2 rd P ql call lo rnd N k b (false::p) s)=some x:=h
    show (if j=i then _ else _)
    rcases qa_ h with⟨hji,h⟩ | ⟨hji,h⟩
    ·obtain rfl:=oI h
     rw[if_pos (nB hji)]
     exact⟨rfl,hq⟩
    ·rw[h1] at h
     obtain rfl:=oI h
     rw[if_neg (fun e=>by subst e; rw[Nat.beq_refl] at hji; cases hji)]
     exact⟨rfl,hq⟩
  | rangeFunc f ps as bd=>
   refine⟨?_,fun b' hb=>by cases hb⟩
   rw[q0v_] at h
   exact exec_ok hcall hrd hlow (fuel+1) (.rangeFunc f ps as bd) s x h F n σ w a hF hrnd hT hD hr
noncomputable def dropB (t:Tr ABlk):List LBlk→Tr ABlk
 | []=>t
 | b::l=>(dropB t l).put b.num none
theorem dropB_get {t:Tr ABlk}:∀ {l:List LBlk} {n:Nat} {x:ABlk},(dropB t l).get n=some x→t.get n=some x∧∀ b∈l,b.num ≠ n
 | [],n,x,h=>⟨h,fun b hb=>by cases hb⟩
 | b::l,n,x,h=>by
  rw[dropB,Tr.get_put] at h
  by_cases hn:n=b.num
  ·rw[if_pos hn] at h; cases h
  ·rw[if_neg hn] at h
   obtain⟨h1,h2⟩:=dropB_get h
   refine⟨h1,fun c hc=>?_⟩
   rcases List.mem_cons.1 hc with rfl | hc
   ·exact fun e=>hn e.symm
   ·exact h2 c hc
def OutQ (σ:Ren)(H:AH)(ins:List LBlk)(c:Nat):Prop:=∃ b x d m,H.blocks.get b=some x∧(∀ i∈ins,i.num ≠ b)∧σ b=some (c,d,m)
theorem ins_hr2 {n:Nat}{Q X:Nat→Prop}{σ:Ren}{H:AH}{w:World}(hr:HR ⟨⟨n,Q⟩,X⟩ σ H w){ins:List LBlk}(h:insOk H.blocks ins=true):HR ⟨⟨n,fun c=>Q c∨OutQ σ H ins c⟩,X⟩ σ ⟨layO .nil ins,H.next,H.next⟩ w:=by
 refine HR.addQ (ins_hr hr h) (fun c hc=>?_) (fun b x c d m hb hs hc=>?_)
 ·obtain⟨b,x,d,m,_,_,hs⟩:=hc
  exact hr.img b c d m hs
 ·obtain⟨b2,y,d2,m2,g1,g2,g3⟩:=hc
  rcases qze_ hb with⟨i,hi,rfl,_⟩ | h0
  ·obtain⟨z,h1,_⟩:=qvt_ h i hi
   exact g2 i hi (hr.inj i.num b2 z y c d m d2 m2 h1 g1 hs g3)
  ·rw[Tr.get_nil] at h0; cases h0
theorem out_hr2g {n:Nat}{Q X:Nat→Prop}{σ σ₁:Ren}{H H1:AH}{w w':World}(hr:HR ⟨⟨n,Q⟩,X⟩ σ H w){ins:List LBlk}(hr1:HR ⟨⟨n,fun c=>Q c∨OutQ σ H ins c⟩,X⟩ σ₁ H1 w'){low:Nat}(st:Step ⟨⟨n,fun c=>Q c∨OutQ σ H ins c⟩,X⟩ σ w low σ₁ w'){nx lo:Nat}(hnx:H1.next≤nx){outs:List LBlk}
  (cases2:∀ {b x},(layO (dropB H.blocks ins) outs).get b=some x→(∃ y,H1.blocks.get b=some y∧∀ {d m o},BR σ₁ d m o y→BR σ₁ d m o x)∨(H.blocks.get b=some x∧∀ i∈ins,i.num ≠ b)) :
  HR ⟨⟨n,Q⟩,X⟩ σ₁ ⟨layO (dropB H.blocks ins) outs,nx,lo⟩ w':=by
 refine⟨⟨hr1.base.1,fun c hc=>hr1.base.2.1 c (.inl hc),hr1.base.2.2⟩,?_,?_,fun b t ht=>Nat.lt_of_lt_of_le (hr1.dom b t ht) hnx,hr1.img,(fun b hb=>⟨Nat.lt_of_lt_of_le (hr1.hol b hb).1 hnx,(hr1.hol b hb).2⟩),hr1.frz⟩
 ·intro b x hx
  rcases cases2 hx with⟨y,h1,h2⟩ | ⟨h1,h2⟩
  ·obtain⟨c,d,m,q1,q2,q3⟩:=hr1.blk b y h1
   exact⟨c,d,m,q1,⟨q2.1,fun hq=>q2.2 (.inl hq)⟩,h2 q3⟩
  ·obtain⟨c,d,m,q1,q2,q3⟩:=hr.blk b x h1
   have hk:=st.keep c (hr.img _ _ _ _ q1) (.inl (.inr ⟨b,x,d,m,h1,h2,q1⟩))
   exact⟨c,d,m,st.ext _ _ q1,q2,by rw[hk.1]; exact q3.mono st.ext⟩
 ·have on:∀ {b₁ b₂ x y c d₁ m₁ d₂ m₂},H.blocks.get b₁=some x→(∀ i∈ins,i.num ≠ b₁)→H1.blocks.get b₂=some y→σ₁ b₁=some (c,d₁,m₁)→σ₁ b₂=some (c,d₂,m₂)→False:=by
   intro b₁ b₂ x y c d₁ m₁ d₂ m₂ h1 hi h2 s1 s2
   obtain⟨c',d,m,q1,_,_⟩:=hr.blk b₁ x h1
   have e:=st.ext _ _ q1
   rw[s1] at e
   injection e with e
   injection e with e _
   subst e
   obtain⟨c2,d2,m2,g1,g2,_⟩:=hr1.blk b₂ y h2
   rw[s2] at g1
   injection g1 with g1
   injection g1 with g1 _
   subst g1
   exact g2.2 (.inr ⟨b₁,x,d,m,h1,hi,q1⟩)
  intro b₁ b₂ x₁ x₂ c d₁ m₁ d₂ m₂ h1 h2 s1 s2
  rcases cases2 h1 with⟨y₁,h1,_⟩ | ⟨h1,i1⟩
  ·rcases cases2 h2 with⟨y₂,h2,_⟩ | ⟨h2,i2⟩
   ·exact hr1.inj b₁ b₂ y₁ y₂ c d₁ m₁ d₂ m₂ h1 h2 s1 s2
   ·exact (on h2 i2 h1 s2 s1).elim
  ·rcases cases2 h2 with⟨y₂,h2,_⟩ | ⟨h2,i2⟩
   ·exact (on h1 i1 h2 s1 s2).elim
   ·obtain⟨c₁,d,m,q1,_,_⟩:=hr.blk b₁ x₁ h1
    obtain⟨c₂,d',m',q2,_,_⟩:=hr.blk b₂ x₂ h2
    have e1:=st.ext _ _ q1
    have e2:=st.ext _ _ q2
    rw[s1] at e1
    rw[s2] at e2
    injection e1 with e1
    injection e1 with e1 _
    injection e2 with e2
    injection e2 with e2 _
    exact hr.inj b₁ b₂ x₁ x₂ c d m d' m' h1 h2 (e1 ▸ q1) (e2 ▸ q2)
theorem out_hr2 {n:Nat}{Q X:Nat→Prop}{σ σ₁:Ren}{H H1:AH}{w w':World}(hr:HR ⟨⟨n,Q⟩,X⟩ σ H w){ins:List LBlk}(hr1:HR ⟨⟨n,fun c=>Q c∨OutQ σ H ins c⟩,X⟩ σ₁ H1 w'){low:Nat}(st:Step ⟨⟨n,fun c=>Q c∨OutQ σ H ins c⟩,X⟩ σ w low σ₁ w'){nx lo:Nat}(hnx:H1.next≤nx){outs:List LBlk}(h:insOk H1.blocks outs=true) :
  HR ⟨⟨n,Q⟩,X⟩ σ₁ ⟨layO (dropB H.blocks ins) outs,nx,lo⟩ w':=by
 have cases2:∀ {b x},(layO (dropB H.blocks ins) outs).get b=some x→(∃ y,H1.blocks.get b=some y∧∀ {d m o},BR σ₁ d m o y→BR σ₁ d m o x)∨(H.blocks.get b=some x∧∀ i∈ins,i.num ≠ b):=by
  intro b x hx
  rcases qze_ hx with⟨c,hc,rfl,rfl⟩ | h0
  ·obtain⟨y,h1,h2⟩:=qvt_ h c hc
   exact .inl ⟨y,h1,fun q=>LB.sub_br h2 q⟩
  ·exact .inr (dropB_get h0)
 exact out_hr2g hr hr1 st hnx cases2
structure LEntry where
 f:FuncId
 path:List Bool
 slot:Nat
 T:List Value
 D:List DItem
 ins:List LBlk
 num:Nat
 ex:Ex
 T':List Value
 outs:List LBlk
 next:Nat
 low:Nat
noncomputable def outL (H:AH)(e:LEntry):AH:=⟨layO (dropB H.blocks e.ins) e.outs,e.next,Nat.min H.low e.low⟩
theorem isAny_eq {v:Value}(h:isAny v=true):v=.chan none:=by
 unfold isAny at h
 split at h
 ·rfl
 ·cases h
noncomputable def sameT (T:Tr Value):List Value→Nat→Bool
 | [],_=>true
 | v::l,i=>(isAny v||veq (tget T i) v)&&sameT T l (Nat.succ i)
theorem sameT_get {T:Tr Value}:∀ {l:List Value} {i:Nat},sameT T l i=true→∀ j v,l[j]?=some v→isAny v=true∨tget T (i+j)=v
 | [],i,_,j,v,hj=>by simp at hj
 | u::l,i,h,j,v,hj=>by
  simp only[sameT,bA,Bool.or_eq_true] at h
  cases j with
  | zero=>
   simp at hj
   subst hj
   exact h.1.imp id fun h=>qy3_ h
  | succ j=>
   have:=sameT_get h.2 j v (by simpa using hj)
   rwa [show i+(j+1)=Nat.succ i+j from by omega]
theorem sameT_TR {σ:Ren}{N:Nat}{T:Tr Value}{ts:Array Value}(hT:TR σ N T ts){l:List Value}(hl:l.length=N)(h:sameT T l 0=true):TR σ N (layT l) ts:=by
 refine⟨hT.size,fun i=>?_⟩
 unfold tget
 rw[qfu_]
 by_cases hi:i<l.length
 ·have h1:=sameT_get h i l[i] (by simp[hi])
  rw[Nat.zero_add] at h1
  rw[List.getElem?_eq_getElem hi,oc_some]
  rcases h1 with h1 | h1
  ·rw[isAny_eq h1]; exact .any _
  ·rw[←h1]; exact hT.slot i
 ·rw[List.getElem?_eq_none (Nat.le_of_not_lt hi),oc_none]
  have:ts.getD i undef=undef:=by
   rw[Array.getD_eq_getD_getElem?,Array.getElem?_eq_none (by rw[hT.size]; omega)]; rfl
  rw[this]
  exact qo4_ σ
def sameN (l k:List DItem):Bool:=
 match l with
 | []=>(match k with
  | []=>true
  | _=>false)
 | _=>false
theorem sameN_eq {l k:List DItem}(h:sameN l k=true):l=k:=by
 cases l with
 | nil=>cases k with
  | nil=>rfl
  | cons=>cases h
 | cons=>cases h
def sameB:List Bool→List Bool→Bool
 | [],[]=>true
 | true::l,true::k=>sameB l k
 | false::l,false::k=>sameB l k
 | _,_=>false
theorem sameB_eq:∀ {l k:List Bool},sameB l k=true→l=k
 | [],[],_=>rfl
 | true::l,true::k,h=>by rw[sameB_eq (l:=l) (k:=k) h]
 | false::l,false::k,h=>by rw[sameB_eq (l:=l) (k:=k) h]
 | [],_::_,h=>by cases h
 | _::_,[],h=>by cases ‹Bool›<;>cases h
 | true::_,false::_,h=>by cases h
 | false::_,true::_,h=>by cases h
def sameEx (a b:Ex):Bool:=
 match a with
 | .normal=>(match b with
  | .normal=>true
  | _=>false)
 | .ret=>(match b with
  | .ret=>true
  | _=>false)
 | .exit i=>(match b with
  | .exit j=>Nat.beq i j
  | _=>false)
theorem sameEx_eq {a b:Ex}(h:sameEx a b=true):a=b:=by
 unfold sameEx at h
 split at h<;>split at h<;>first | rfl | (rw[nB h]) | cases h
def LEntryOK (P:Program)(M:Nat)(e:LEntry):Prop:=
 ∀ (fd:Func) (body b:Code),P.funcs[e.f]?=some fd→fd.body=some body→qws_ body e.path=some (.loop b)→e.T.length=fd.ntmps ∧
  ∀ (n:Base) (X:Nat→Prop) (H:AH) (F:Fence) (k:Nat) (σ:Ren) (w:World) (a:Act),insOk H.blocks e.ins=true→H.next=e.num→WideF F→F.round=none→TR σ fd.ntmps (layT e.T) a.tmps→DR σ e.D a.defers→HR ⟨n,X⟩ σ H w →
   Code.roundsIn F k P b (CodeAt ⟨n,X⟩ fd.ntmps σ w (e.ex,(layT e.T',e.D,outL H e))) M a w
def AllL (P:Program)(M:Nat):List LEntry→Prop
 | []=>True
 | e::l=>LEntryOK P M e∧AllL P M l
noncomputable def layLs (l:List LEntry):Tr (List LEntry):=@List.rec LEntry (fun _=>Tr (List LEntry)) .nil (fun e _ ih=>ih.set e.num (e::oc (ih.get e.num) [] fun k=>k)) l
theorem qu6_ {P:Program}{M:Nat}:∀ {l:List LEntry},AllL P M l→∀ k m,(layLs l).get k=some m→∀ e∈m,LEntryOK P M e
 | [],_,k,m,h,e,he=>by cases h
 | a::l,hl,k,m,h,e,he=>by
  have h:((layLs l).set a.num (a::oc ((layLs l).get a.num) [] fun k=>k)).get k=some m:=h
  rw[Tr.get_set] at h
  by_cases hk:k=a.num
  ·rw[if_pos hk] at h
   obtain rfl:=oI h
   rcases List.mem_cons.1 he with rfl | he
   ·exact hl.1
   ·cases hg:(layLs l).get a.num with
    | none=>rw[hg] at he; cases he
    | some k'=>rw[hg] at he; exact qu6_ hl.2 _ _ hg e he
  ·rw[if_neg hk] at h
   exact qu6_ hl.2 k m h e he
noncomputable def hitL (f:FuncId)(p:List Bool)(s:XSt)(e:LEntry):Bool:=
 oc (e.T[e.slot]?) false (fun v=>veq (tget s.1 e.slot) v)&&(Nat.beq e.f f&&(sameB e.path p&&(Nat.beq s.2.2.next e.num&&(sameT s.1 e.T 0&&(sameN s.2.1 e.D&&insOk s.2.2.blocks e.ins)))))
noncomputable def pickL (f:FuncId)(p:List Bool)(s:XSt)(l:List LEntry):XRes:=
 @List.rec LEntry (fun _=>XRes) none (fun e _ ih=>sel (hitL f p s e) (some (e.ex,(layT e.T',e.D,outL s.2.2 e))) ih) l
noncomputable def loF (L:Tr (List LEntry))(f:FuncId):LoT:=fun p s=>oc (L.get s.2.2.next) none fun l=>pickL f p s l
theorem pickL_eq {f:FuncId}{p:List Bool}{s:XSt}{x:Ex×XSt}:∀ {l:List LEntry},pickL f p s l=some x→∃ e∈l,hitL f p s e=true∧x=(e.ex,(layT e.T',e.D,outL s.2.2 e))
 | [],h=>by cases h
 | e::l,h=>by
  have h:sel (hitL f p s e) (some (e.ex,(layT e.T',e.D,outL s.2.2 e))) (pickL f p s l)=some x:=h
  rcases qa_ h with⟨h1,h2⟩ | ⟨_,h2⟩
  ·exact⟨e,List.mem_cons_self ..,h1,(oI h2).symm⟩
  ·obtain⟨e',h1,h3⟩:=pickL_eq h2
   exact⟨e',List.mem_cons_of_mem _ h1,h3⟩
theorem loF_low (L:Tr (List LEntry))(f:FuncId):LoLow (loF L f):=by
 intro p s x h
 obtain⟨l,_,h⟩:=oS h
 obtain⟨e,_,_,rfl⟩:=pickL_eq h
 exact Nat.min_le_left _ _
theorem loF_ok {P:Program}{M:Nat}{L:Tr (List LEntry)}(hL:∀ k m,L.get k=some m→∀ e∈m,LEntryOK P M e){f:FuncId}{fd:Func}{body:Code}(hf:P.funcs[f]?=some fd)(hb:fd.body=some body)(n0:Bs):LoOK P n0 none fd.ntmps body M (loF L f):=by
 intro p b s x hp h F n σ w a hF hrnd hT hD hr
 obtain⟨l,hl,h⟩:=oS h
 obtain⟨e,he,hh,rfl⟩:=pickL_eq h
 simp only[hitL,bA] at hh
 obtain⟨_,h1,h2,h3,h4,h5,h6⟩:=hh
 obtain rfl:=nB h1
 obtain rfl:=sameB_eq h2
 obtain⟨g1,g2⟩:=hL _ _ hl e he fd body b hf hb hp
 have hD':DR σ e.D a.defers:=by rw[←sameN_eq h5]; exact hD
 exact g2 n0.n n0.X s.2.2 F n σ w a h6 (nB h3) hF hrnd (sameT_TR hT g1 h4) hD' hr
abbrev DcT:=Nat→List Value→AH→Option AH
noncomputable def closeQ (ql:List (Nat×Nat))(dc:DcT)(D:List DItem):AH→Option AH:=
 @List.rec DItem (fun _=>AH→Option AH) (fun H=>some H) (fun d _ ih H=>@DItem.rec (fun _=>Option AH) (fun b=>oc (H.blocks.get b) none fun x=>sel (isOpen x) (ih (H.setB b (.marks false))) none) (fun g cap=>sel (isQuiet ql g cap.length) (ih H) (oc (dc g cap H) none ih)) d) D
theorem q0w_ (ql:List (Nat×Nat))(dc:DcT)(b:Nat)(D:List DItem)(H:AH):closeQ ql dc (.mark b::D) H=oc (H.blocks.get b) none fun x=>sel (isOpen x) (closeQ ql dc D (H.setB b (.marks false))) none:=rfl
theorem q0x_ (ql:List (Nat×Nat))(dc:DcT)(g:Nat)(cap:List Value)(D:List DItem)(H:AH):closeQ ql dc (.call g cap::D) H=sel (isQuiet ql g cap.length) (closeQ ql dc D H) (oc (dc g cap H) none (closeQ ql dc D)):=rfl
def DcLow (dc:DcT):Prop:=∀ g cap H H',dc g cap H=some H'→H'.low≤H.low
def DcOK (P:Program)(n0:Nat)(dc:DcT):Prop:=
 ∀ (Q X:Nat→Prop) g cap H H',dc g cap H=some H'→∀ (σ:Ren) (w:World) (x:Array Value) (n:Nat),VRs σ cap x.toList→HR ⟨⟨n0,Q⟩,X⟩ σ H w →
  liveF P g=true∧CallsDIn Fence.wide n P g x .returning w fun e u' w'=>(∃ v,e=.returned v)∧u'=.returning∧∃ σ',HR ⟨⟨n0,Q⟩,X⟩ σ' H' w'∧Step ⟨⟨n0,Q⟩,X⟩ σ w H'.low σ' w'
theorem qpo_ {ql:List (Nat×Nat)}{dc:DcT}(hdl:DcLow dc):∀ {D:List DItem} {H H':AH},closeQ ql dc D H=some H'→H'.low≤H.low
 | [],H,H',h=>by obtain rfl:=oI h; exact Nat.le_refl _
 | .mark b::D,H,H',h=>by
  rw[q0w_] at h
  obtain⟨x,_,h⟩:=oS h
  obtain⟨_,h⟩:=sel_none h
  exact Nat.le_trans (qpo_ hdl h) (Nat.min_le_left _ _)
 | .call g cap::D,H,H',h=>by
  rw[q0x_] at h
  rcases qa_ h with⟨_,h⟩ | ⟨_,h⟩
  ·exact qpo_ hdl h
  ·obtain⟨H1,h1,h2⟩:=oS h
   exact Nat.le_trans (qpo_ hdl h2) (hdl _ _ _ _ h1)
theorem qvu_ {P:Program}{n N n0:Nat}{Q X:Nat→Prop}{fd:Func}{ql:List (Nat×Nat)}(hq:QuietsOK P ql){dc:DcT}(hdl:DcLow dc)(hdc:DcOK P n0 dc){T:Tr Value}{ts:Array Value}{vs:List Value}{R:Ending→World→Prop}:∀ {D:List DItem} {ds:List Deferred} {σ:Ren} {H H':AH} {w:World},closeQ ql dc D H=some H'→DR σ D ds→TR σ N T ts→HR ⟨⟨n0,Q⟩,X⟩ σ H w→resL P T H' fd.results.toList=some vs →
  (∀ σ' v' w',VR σ' (wrapR vs) v'→HR ⟨⟨n0,Q⟩,X⟩ σ' H' w'→Step ⟨⟨n0,Q⟩,X⟩ σ w H'.low σ' w'→R (.returned v') w')→LeavesInM Fence.wide n P fd ts R ds .returning w
 | [],ds,σ,H,H',w,hc,hD,hT,hr,hres,hR=>by
  obtain rfl:=oI hc
  cases hD
  obtain⟨v',h1,h2⟩:=qy0_ (P:=P) hr hT hres
  exact⟨v',h2,hR σ v' w h1 hr (Step.refl _ _ _ _)⟩
 | .mark b::D,ds,σ,H,H',w,hc,hD,hT,hr,hres,hR=>by
  rw[q0w_] at hc
  obtain⟨x,hx,hc2⟩:=oS hc
  obtain⟨ho,hc3⟩:=sel_none hc2
  clear hc hc2
  obtain rfl:=isOpen_eq ho
  cases hD with
  | @cons _ c _ ds hb hl=>
   obtain⟨c',d',m',hs',hn,hB⟩:=hr.blk b _ hx
   rw[hb] at hs'
   injection hs' with hs'
   injection hs' with e1 hs'
   injection hs' with e2 e3
   subst e1 e2 e3
   have hobj:w.heap[c]?=some (.deferred (some [])):=by simpa using hB.1
   obtain⟨g1,g2⟩:=hr.setObj hx hb (o:=.deferred none) (x:=.marks false) ⟨rfl,rfl,rfl⟩
   refine⟨(fun h=>by cases h),.inl ⟨c,qhj_ w c (.deferred none),rfl,?_,?_⟩⟩
   ·simp[Instr.takeDeferred,getObj,setObj,Sem.run,Sem.run_bind,hobj,qhj_]
   ·exact qvu_ hq hdl hdc hc3 hl hT g1 hres fun σ' v' w' q1 q2 q3=>hR σ' v' w' q1 q2 (g2.trans q3 (qpo_ hdl hc3))
 | .call g cap::D,ds,σ,H,H',w,hc,hD,hT,hr,hres,hR=>by
  rw[q0x_] at hc
  cases hD with
  | @call _ _ x _ ds hx hl=>
   have hsz:cap.length=x.size:=by have:=hx.length; simpa using this
   have enter:∀ (_:liveF P g=true) (_:CallsDIn Fence.wide (n-1) P g x .returning w fun e u' w'=>∃ v,e=.returned v∧u'=.returning∧LeavesInM Fence.wide n P fd ts R ds .returning w'),LeavesInM Fence.wide n P fd ts R ({ target:=.fn (.func g) x,args:=#[] } :: ds) .returning w:=fun hlive hcall=>by
    obtain⟨fd',f1,f2,f3⟩:=liveF_go hlive
    have hnm':¬ fd'.name = "runtime.NumGoroutine" := by simpa using f2
    have hbd':¬ fd'.body=none:=fun e=>by rw[e] at f3; cases f3
    refine⟨(fun h=>by cases h),.inr ⟨(fun h=>by cases h),.func g,x,g,x,rfl,?_,fun _ _=>trivial,?_⟩⟩
    ·simp[invoke,callFunc,program,Sem.run,Sem.run_bind,f1,hnm',hbd']
    ·refine CallsDIn.mono hcall ?_
     rintro e u' w' ⟨v,rfl,rfl,h⟩
     exact h
   rcases qa_ hc with⟨hqq,hc2⟩ | ⟨_,hc2⟩
   ·have hQ:=hq.mem _ (isQuiet_mem hqq)
    refine enter hQ.live (CallsDIn.mono (hQ.does x w (n-1) hsz.symm) ?_)
    rintro e u' w' ⟨⟨v,rfl⟩,rfl,rfl⟩
    exact⟨v,rfl,rfl,qvu_ hq hdl hdc hc2 hl hT hr hres hR⟩
   ·obtain⟨H1,hd1,hc3⟩:=oS hc2
    obtain⟨hlive,hcall⟩:=hdc Q X g cap H H1 hd1 σ w x (n-1) hx hr
    refine enter hlive (CallsDIn.mono hcall ?_)
    rintro e u' w' ⟨⟨v,rfl⟩,rfl,σ1,hr1,st1⟩
    exact⟨v,rfl,rfl,qvu_ hq hdl hdc hc3 (hl.mono st1.ext) (hT.mono st1.ext) hr1 hres fun σ' v' w'' q1 q2 q3=>hR σ' v' w'' q1 q2 (st1.trans q3 (qpo_ hdl hc3))⟩
noncomputable def leaveQ (P:Program)(ql:List (Nat×Nat))(dc:DcT)(fd:Func)(x:Ex×XSt):VRes:=
 sel (exDone x.1) (oc (closeQ ql dc x.2.2.1 x.2.2.2) none fun H=>oc (resL P x.2.1 H fd.results.toList) none fun l=>some (wrapR l,H)) none
def nilD (l:List DItem):Bool:=
 match l with
 | []=>true
 | _=>false
noncomputable def bodyD (rd:RegT)(P:Program)(ql:List (Nat×Nat))(L:Tr (List LEntry))(ih:CallT):DcT:=fun g cap H=>
 oc (P.funcs[g]?) none fun fd=>oc fd.body none fun c=>sel (Nat.ble cap.length fd.ntmps && !(fd.name == "runtime.NumGoroutine")) (oc (exec2 rd P ql ih (loF L g) none fd.ntmps fuel c [] (layT cap,[],H)) none fun x=>
  sel (exDone x.1&&nilD x.2.2.1) (oc (resL P x.2.1 x.2.2.2 fd.results.toList) none fun _=>some x.2.2.2) none) none
noncomputable def bodyF2 (rd:RegT)(P:Program)(ql:List (Nat×Nat))(L:Tr (List LEntry))(ih:CallT)(f:FuncId)(fd:Func)(args:List Value)(H:AH):VRes:=
 oc fd.body none fun c=>sel (Nat.ble args.length fd.ntmps && !(fd.name == "runtime.NumGoroutine")) (oc (exec2 rd P ql ih (loF L f) none fd.ntmps fuel c [] (layT args,[],H)) none fun x=>leaveQ P ql (bodyD rd P ql L ih) fd x) none
noncomputable def callGo2 (rd:RegT)(P:Program)(ql:List (Nat×Nat))(L:Tr (List LEntry))(ih:CallT)(fn:Fn)(args:List Value)(H:AH):VRes:=
 match fn with
 | .func f=>oc (P.funcs[f]?) none fun fd=>bodyF2 rd P ql L ih f fd args H
 | .yield l=>roundF rd P ih l args H
 | _=>none
theorem bodyD_low {rd:RegT}(hlow:RdLow rd){P:Program}{ql:List (Nat×Nat)}{L:Tr (List LEntry)}{call:CallT}:DcLow (bodyD rd P ql L call):=by
 intro g cap H H' h
 obtain⟨fd,_,h⟩:=oS h
 obtain⟨c,_,h⟩:=oS h
 obtain⟨_,h⟩:=sel_none h
 obtain⟨x,hx,h⟩:=oS h
 obtain⟨_,h⟩:=sel_none h
 obtain⟨_,_,h⟩:=oS h
 obtain rfl:=oI h
 exact exec2_low hlow (loF_low L g) _ _ _ _ _ hx
theorem bodyD_ok {P:Program}{n0:Nat}{rd:RegT}(hrd:RdOK P n0 rd)(hlow:RdLow rd){ql:List (Nat×Nat)}(hq:QuietsOK P ql){M:Nat}{L:Tr (List LEntry)}(hL:∀ k m,L.get k=some m→∀ e∈m,LEntryOK P M e){call:CallT}(ih:qn1_ P n0 call):DcOK P n0 (bodyD rd P ql L call):=by
 intro Q X g cap H H' h σ w x n hx hr
 obtain⟨fd,hfd,h⟩:=oS h
 obtain⟨c,hc,h⟩:=oS h
 obtain⟨hb,h⟩:=sel_none h
 obtain⟨y,hy,h⟩:=oS h
 obtain⟨hd,h⟩:=sel_none h
 obtain⟨vs,hvs,h⟩:=oS h
 obtain rfl:=oI h
 simp only[bA,Bool.not_eq_true'] at hb hd
 obtain⟨hd1,hd2⟩:=hd
 have hN:=qd1_ hb.1
 have hlive:liveF P g=true:=by
  unfold liveF
  rw[hfd,oc_some,hb.2,hc]
  rfl
 refine⟨hlive,CallsDIn.mono (R:=fun e u' w'=>u'=.returning∧(fun e w'=>(∃ v,e=.returned v)∧∃ σ',HR ⟨⟨n0,Q⟩,X⟩ σ' y.2.2.2 w'∧Step ⟨⟨n0,Q⟩,X⟩ σ w y.2.2.2.low σ' w') e w') (callsDIn_of_wp hfd hc trivial ?_) ?_⟩
 ·have hex:=(exec2_ok (n0:=⟨⟨n0,Q⟩,X⟩) ih hrd hlow hq (loF_low L g) rfl (loF_ok hL hfd hc _) fuel c [] _ y rfl hy Fence.wide n σ w { tmps:=x++Array.replicate (fd.ntmps-x.size) undef,defers:=[] } ⟨none,rfl⟩ rfl (q1m_ hx hN) .nil hr).1
  refine wpIn_mono hex ?_
  rintro e a' w' ⟨rfl,σ',q1,q2,q3,q4⟩
  obtain⟨v',z1,z2⟩:=qy0_ (P:=P) q3 q1 hvs
  obtain⟨e,T1,D1,H1⟩:=y
  cases D1 with
  | cons=>cases hd2
  | nil=>
   have hdn:a'.defers=[]:=by
    have q2:DR σ' [] a'.defers:=q2
    generalize a'.defers=ds at q2
    cases q2; rfl
   cases e with
   | normal=>exact⟨hdn,v',z2,⟨v',rfl⟩,σ',q3,q4⟩
   | ret=>exact⟨hdn,v',z2,⟨v',rfl⟩,σ',q3,q4⟩
   | exit i=>cases hd1
 ·rintro e u' w' ⟨rfl,h1,σ',h2,h3⟩
  exact⟨h1,rfl,σ',h2,h3⟩
theorem callGo2_ok {P:Program}{n0:Nat}{rd:RegT}(hrd:RdOK P n0 rd)(hlow:RdLow rd){ql:List (Nat×Nat)}(hq:QuietsOK P ql){M:Nat}{L:Tr (List LEntry)}(hL:∀ k m,L.get k=some m→∀ e∈m,LEntryOK P M e){call:CallT}(ih:qn1_ P n0 call):qn1_ P n0 (callGo2 rd P ql L call):=by
 intro Q X fn args H v H' h σ w fn' args' hfn hargs hr
 cases hfn with
 | method s=>cases h
 | @yield l c hl=>
  exact q1n_ hrd hlow ih Q X (.yield l) args H v H' h σ w (.yield c) args' (.yield hl) hargs hr
 | func f=>
  obtain⟨fd,hfd,h⟩:=oS h
  obtain⟨c,hc,h⟩:=oS h
  obtain⟨hb,h⟩:=sel_none h
  obtain⟨x,hx,h⟩:=oS h
  obtain⟨hd,h⟩:=sel_none h
  obtain⟨H2,hcl,h⟩:=oS h
  obtain⟨vs,hvs,h⟩:=oS h
  obtain⟨rfl,rfl⟩:=pI (oI h)
  simp only[bA,Bool.not_eq_true'] at hb
  refine⟨⟨fd,hfd,hb.2,by rw[hc]; rfl⟩,fun n=>?_⟩
  have hN:=qd1_ hb.1
  refine callsIn_of_wp_marks hfd hc trivial ?_
  have hex:=(exec2_ok (n0:=⟨⟨n0,Q⟩,X⟩) ih hrd hlow hq (loF_low L f) rfl (loF_ok hL hfd hc _) fuel c [] _ x rfl hx Fence.wide n σ w { tmps:=args' ++ Array.replicate (fd.ntmps-args'.size) undef,defers:=[] } ⟨none,rfl⟩ rfl (q1m_ hargs hN) .nil hr).1
  refine wpIn_mono hex ?_
  rintro e a' w' ⟨rfl,σ',q1,q2,q3,q4⟩
  have main:LeavesInM Fence.wide n P fd a'.tmps (RetOK ⟨⟨n0,Q⟩,X⟩ σ w (wrapR vs) H2) a'.defers .returning w':=
   qvu_ hq (bodyD_low hlow) (bodyD_ok hrd hlow hq hL ih) hcl q2 q1 q3 hvs fun σ'' v' w'' z1 z2 z3=>⟨v',σ'',rfl,z1,z2,q4.trans z3 (qpo_ (bodyD_low hlow) hcl)⟩
  obtain⟨e,s⟩:=x
  cases e with
  | normal=>exact main
  | ret=>exact main
  | exit i=>cases hd
noncomputable def goO2 (rd:RegT)(P:Program)(ql:List (Nat×Nat))(K:List SK)(O:Tr Entry)(L:Tr (List LEntry))(ih:CallT)(fn:Fn)(args:List Value)(H:AH):VRes:=
 oc (lookO O fn args H) (oc (skAll K fn args H) (callGo2 rd P ql L ih fn args H) fun r=>some r) fun e=>some (e.val,outH H e)
noncomputable def callO2 (rd:RegT)(P:Program)(ql:List (Nat×Nat))(K:List SK)(O:Tr Entry)(L:Tr (List LEntry))(n:Nat):CallT:=@Nat.rec (fun _=>CallT) (fun _ _ _=>none) (fun _ ih=>goO2 rd P ql K O L ih) n
theorem callO2_succ (rd:RegT)(P:Program)(ql:List (Nat×Nat))(K:List SK)(O:Tr Entry)(L:Tr (List LEntry))(n:Nat):callO2 rd P ql K O L (n+1)=goO2 rd P ql K O L (callO2 rd P ql K O L n):=rfl
theorem qx5_ {P:Program}{n0:Nat}{rd:RegT}(hrd:RdOK P n0 rd)(hlow:RdLow rd){ql:List (Nat×Nat)}(hq:QuietsOK P ql){K:List SK}(hK:SKsOK P K){O:Tr Entry}(hO:∀ k e,O.get k=some e→qh1_ P e){M:Nat}{L:Tr (List LEntry)}(hL:∀ k m,L.get k=some m→∀ e∈m,LEntryOK P M e):∀ k,qn1_ P n0 (callO2 rd P ql K O L k):=by
 intro k
 induction k with
 | zero=>intro Q X fn args H v H' h; cases h
 | succ k ih=>
  intro Q X fn args H v H' h σ w fn' args' hfn hargs hr
  rw[callO2_succ] at h
  unfold goO2 at h
  cases hl:lookO O fn args H with
  | none=>
   rw[hl] at h
   have h:oc (skAll K fn args H) (callGo2 rd P ql L (callO2 rd P ql K O L k) fn args H) (fun r=>some r)=some (v,H'):=h
   cases hk:skAll K fn args H with
   | none=>
    rw[hk] at h
    exact callGo2_ok hrd hlow hq hL ih Q X fn args H v H' h σ w fn' args' hfn hargs hr
   | some r=>
    rw[hk] at h
    obtain rfl:=oI h
    exact skAll_ok hK n0 Q X fn args H v H' hk σ w fn' args' hfn hargs hr
  | some e=>
   rw[hl] at h
   obtain⟨rfl,rfl⟩:=pI (oI h)
   obtain⟨e',he,hl⟩:=oS hl
   obtain⟨hh,hl⟩:=sel_none hl
   obtain rfl:=oI hl
   simp only[hitE,bA] at hh
   obtain⟨h1,h2,h3,h4⟩:=hh
   cases hf:fnNum fn with
   | none=>rw[hf] at h1; exact absurd h1 Bool.false_ne_true
   | some g=>
    rw[hf] at h1
    obtain rfl:=nB h1
    obtain rfl:=q1o_ hf
    cases hfn
    obtain rfl:=qy2_ (fun a b h=>qy3_ h) h3
    exact hO _ _ he ⟨n0,Q⟩ X H σ w args' h4 (nB h2) hargs hr
noncomputable def callR (P:Program)(ql:List (Nat×Nat))(K:List SK)(l:List Entry)(m:List LEntry):CallT:=callO2 (qy8_ P) P ql K (layE l) (layLs m) 100000
noncomputable def chkC (P:Program)(ql:List (Nat×Nat))(K:List SK)(l:List Entry)(m:List LEntry)(e:Entry):Bool:=chkR e (callR P ql K l m (.func e.f) e.args ⟨layO .nil e.ins,e.num,e.num⟩)
theorem partC {P:Program}(hm:P.follows .mixedOrders=true){ql:List (Nat×Nat)}(hq:QuietsOK P ql){K:List SK}(hK:SKsOK P K){l:List Entry}(hl:AllOK P l){M:Nat}{m:List LEntry}(hL:AllL P M m){e:Entry}(h:chkC P ql K l m e=true):qh1_ P e:=by
 intro n X H σ w args' hins hnum hargs hr
 unfold chkC chkR at h
 cases hc:callR P ql K l m (.func e.f) e.args ⟨layO .nil e.ins,e.num,e.num⟩ with
 | none=>rw[hc] at h; cases h
 | some x=>
  rw[hc] at h
  obtain⟨v,H1⟩:=x
  have h:(veq v e.val&&(Nat.ble e.num H1.low&&(Nat.ble H1.next e.next&&(insOk H1.blocks e.outs&&allGe e.num e.outs))))=true:=h
  simp only[bA] at h
  obtain⟨h1,h2,h3,h4,h5⟩:=h
  have h1:=qy3_ h1
  have h2:=Nat.le_of_ble_eq_true h2
  have h3:=Nat.le_of_ble_eq_true h3
  rw[←hnum] at hc h2 h5
  obtain⟨g1,g2⟩:=qx5_ (qnm_ hm n.n) (qky_ P) hq hK (q0s_ hl) (qu6_ hL) 100000 n.Q X _ _ _ _ _ hc σ w _ args' (.func e.f) hargs (ins_hr hr hins)
  refine⟨g1,fun k=>CallsIn.mono (g2 k) ?_⟩
  rintro en w' ⟨v',σ',rfl,q1,q2,q3⟩
  refine⟨v',σ',rfl,h1 ▸ q1,out_hr hr q2 q3 h2 h3 h4 h5,q3.lower ?_⟩
  show Nat.min H.low e.num≤H1.low
  exact Nat.le_trans (Nat.min_le_right _ _) (hnum ▸ h2)
noncomputable def chkS (e:LEntry)(N:Nat)(r:XRes):Bool:=
 oc r false fun x=>sameEx x.1 e.ex&&(sameT x.2.1 e.T' 0&&(sameN x.2.2.1 e.D&&(Nat.ble e.low x.2.2.2.low&&(Nat.ble x.2.2.2.next e.next&&insOk x.2.2.2.blocks e.outs))))
noncomputable def chkL (P:Program)(ql:List (Nat×Nat))(K:List SK)(l:List Entry)(m:List LEntry)(e:LEntry):Bool:=
 oc (P.funcs[e.f]?) false fun fd=>oc fd.body false fun body=>oc (qws_ body e.path) false fun c=>
  (Nat.beq e.T.length fd.ntmps&&Nat.beq e.T'.length fd.ntmps)&&chkS e fd.ntmps (exec2 (qy8_ P) P ql (callR P ql K l m) (loF (layLs m) e.f) none fd.ntmps fuel c e.path (layT e.T,e.D,⟨layO .nil e.ins,e.num,e.num⟩))
theorem partL {P:Program}(hm:P.follows .mixedOrders=true){ql:List (Nat×Nat)}(hq:QuietsOK P ql){K:List SK}(hK:SKsOK P K){l:List Entry}(hl:AllOK P l){M:Nat}{m:List LEntry}(hL:AllL P M m){e:LEntry}(h:chkL P ql K l m e=true):LEntryOK P (fuel+M) e:=by
 intro fd body b hfd hbody hp
 unfold chkL at h
 rw[hfd,oc_some,hbody,oc_some,hp,oc_some] at h
 simp only[bA] at h
 obtain⟨⟨hn1,hn2⟩,h⟩:=h
 have hn1:=nB hn1
 have hn2:=nB hn2
 refine⟨hn1,fun n X H F k σ w a hins hnum hF hro hT hD hr=>?_⟩
 unfold chkS at h
 cases hc:exec2 (qy8_ P) P ql (callR P ql K l m) (loF (layLs m) e.f) none fd.ntmps fuel (.loop b) e.path (layT e.T,e.D,⟨layO .nil e.ins,e.num,e.num⟩) with
 | none=>rw[hc] at h; cases h
 | some x=>
  rw[hc] at h
  obtain⟨ex,T1,D1,H1⟩:=x
  have h:(sameEx ex e.ex&&(sameT T1 e.T' 0&&(sameN D1 e.D&&(Nat.ble e.low H1.low&&(Nat.ble H1.next e.next&&insOk H1.blocks e.outs)))))=true:=h
  simp only[bA] at h
  obtain⟨h1,h2,h3,h4,h5,h6⟩:=h
  obtain rfl:=sameEx_eq h1
  obtain rfl:=sameN_eq h3
  have h4:=Nat.le_of_ble_eq_true h4
  have h5:=Nat.le_of_ble_eq_true h5
  rw[←hnum] at hc
  have hrQ:=ins_hr2 (Q:=n.Q) hr hins
  have hex:=(exec2_ok (n0:=⟨⟨n.n,fun c=>n.Q c∨OutQ σ H e.ins c⟩,X⟩) (qx5_ (qnm_ hm n.n) (qky_ P) hq hK (q0s_ hl) (qu6_ hL) 100000) (qnm_ hm n.n) (qky_ P) hq (loF_low _ _) rfl (loF_ok (qu6_ hL) hfd hbody _) fuel (.loop b) e.path _ _ hp hc F k σ w a hF hro hT hD hrQ).2 b rfl
  refine qwq_ (fun en a' w' hq=>?_) _ _ _ hex
  obtain⟨rfl,σ',q1,q2,q3,q4⟩:=hq
  refine⟨rfl,σ',sameT_TR q1 hn2 h2,q2,out_hr2 (Q:=n.Q) hr q3 q4 h5 h6,?_⟩
  have q4':Step ⟨n,X⟩ σ w H1.low σ' w':=q4.setQ (Q:=n.Q) fun c h=>.inl h
  exact q4'.lower (Nat.le_trans (Nat.min_le_right _ _) h4)
theorem LEntryOK.more {P:Program}{M k:Nat}{e:LEntry}(h:LEntryOK P M e):LEntryOK P (M+k) e:=fun fd body b h1 h2 h3=>
 let ⟨g1,g2⟩:=h fd body b h1 h2 h3
 ⟨g1,fun n X H F j σ w a q1 q2 q3 q4 q5 q6 q7=>qwr_ M k a w (g2 n X H F j σ w a q1 q2 q3 q4 q5 q6 q7)⟩
theorem AllL.more {P:Program}{M k:Nat}:∀ {l:List LEntry},AllL P M l→AllL P (M+k) l
 | [],_=>trivial
 | _::_,h=>⟨h.1.more,AllL.more h.2⟩
def LOK (P:Program)(e:LEntry):Prop:=∃ M,LEntryOK P M e
def AllLOK (P:Program):List LEntry→Prop
 | []=>True
 | e::l=>LOK P e∧AllLOK P l
theorem AllLOK.all {P:Program}:∀ {l:List LEntry},AllLOK P l→∃ M,AllL P M l
 | [],_=>⟨0,trivial⟩
 | e::l,⟨⟨M,h⟩,hl⟩=>by
  obtain⟨M',h'⟩:=AllLOK.all hl
  exact⟨M+M',h.more,by rw[Nat.add_comm]; exact h'.more⟩
theorem partCQ {P:Program}(hm:P.follows .mixedOrders=true){ql:List (Nat×Nat)}(hq:QuietsOK P ql){K:List SK}(hK:SKsOK P K){l:List Entry}(hl:AllOK P l){m:List LEntry}(hL:AllLOK P m){e:Entry}(h:chkC P ql K l m e=true):qh1_ P e:=by
 obtain⟨M,hM⟩:=hL.all
 exact partC hm hq hK hl hM h
theorem partLQ {P:Program}(hm:P.follows .mixedOrders=true){ql:List (Nat×Nat)}(hq:QuietsOK P ql){K:List SK}(hK:SKsOK P K){l:List Entry}(hl:AllOK P l){m:List LEntry}(hL:AllLOK P m){e:LEntry}(h:chkL P ql K l m e=true):LOK P e:=by
 obtain⟨M,hM⟩:=hL.all
 exact⟨_,partL hm hq hK hl hM h⟩
theorem run_argsR {P:Program}(hm:P.follows .mixedOrders=true){ql:List (Nat×Nat)}(hq:QuietsOK P ql){K:List SK}(hK:SKsOK P K){l:List Entry}(hl:AllOK P l){m:List LEntry}(hL:AllLOK P m){f:FuncId}{args:List Value}(hargs:VRs Ren.nil args args)(h:isTrue (callR P ql K l m (.func f) args h0)=true)(w:World)(ht:TabsOK w.heap.size w) :
  Calls P f ⟨args⟩ w fun e w'=>e=.returned (.bool true)∧Below w.heap.size w w':=by
 obtain⟨M,hM⟩:=hL.all
 unfold isTrue at h
 split at h
 ·rename_i H' hc
  obtain⟨_,hgo⟩:=qx5_ (qnm_ hm w.heap.size) (qky_ P) hq hK (q0s_ hl) (qu6_ hM) 100000 (fun _=>False) (fun _=>False) _ _ _ _ _ hc Ren.nil w _ ⟨args⟩ (.func f) hargs (hr_start w ht)
  refine (callsIn_wide (n:=0)).1 (CallsIn.mono (hgo 0) ?_)
  rintro e w' ⟨v',σ',rfl,h1,_,h3⟩
  cases h1
  exact⟨rfl,h3.below⟩
 ·cases h
end Go.Proofs.YthlikofobjhcoaaGreat.Ax
